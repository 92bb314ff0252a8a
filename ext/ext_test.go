package ext

import (
	"math"
	"math/rand"
	"slices"
	"strings"
	"testing"

	"aerial/api"
)

// two tells a number in two bytes.
func two(n int) string { return string([]byte{byte(n / 256), byte(n % 256)}) }

// head tells a text in few signs, for a test's report.
func head(s string) string { return s[:min(len(s), 24)] }

// wrongTypes tells numbers that are no types, next to them and far from them.
func wrongTypes() []int {
	return []int{
		-1, -2, -255, -256, -257, -1535, -1536, -65535, -65536, -1 << 31, -1 << 32, math.MinInt + 1, math.MinInt,
		65536, 65537, 65536 + 0x0101, 65536 + 0x0800, 1 << 17, 1 << 31, 1<<32 + 0x0800, math.MaxInt - 1, math.MaxInt,
	}
}

// protocols tells types of protocols, from the least to the greatest.
func protocols() []int {
	return []int{0x0600, 0x0601, 0x06ff, 0x0700, 0x0800, 0x0806, 0x7fff, 0x8000, 0x86dd, 0xff00, 0xfffe, 0xffff}
}

// modelSkip is P9.1, word by word.
func modelSkip(typ int, data string) (int, string, api.Errno) {
	if typ < 0 || typ > 65535 {
		return 0, "", 2
	}
	if typ >= 1536 {
		return typ, data, 0
	}
	h := typ / 256
	if h == 0 {
		return 0, "", 5
	}
	if len(data) < 2*h {
		return 0, "", 4
	}
	next := int(data[2*h-2])*256 + int(data[2*h-1])
	return modelSkip(next, data[2*h:])
}

// modelPut is P9.2, from the last head to the first one.
func modelPut(typ int, data string, heads ...string) (int, string, api.Errno) {
	if typ < 1536 || typ > 65535 {
		return 0, "", 2
	}
	for i := len(heads) - 1; i >= 0; i-- {
		h := map[int]int{1: 1, 3: 2, 5: 3, 7: 4, 9: 5}[len(heads[i])]
		if h == 0 {
			return 0, "", 2
		}
		typ, data = h*256+int(heads[i][0]), heads[i][1:]+two(typ)+data
	}
	return typ, data, 0
}

// skips asks Skip.
func skips(t *testing.T, typ int, data string, to int, rest string, e api.Errno) {
	t.Helper()
	if n, s, is := Skip(typ, data); n != to || s != rest || is != e {
		t.Errorf("Skip(%04x, %x), %d bytes: %04x, %x (%d bytes), %d, want %04x, %x (%d bytes), %d",
			typ, head(data), len(data), n, head(s), len(s), is, to, head(rest), len(rest), e)
	}
}

// skipsAsModel asks the same of the model.
func skipsAsModel(t *testing.T, typ int, data string) {
	t.Helper()
	to, rest, e := modelSkip(typ, data)
	skips(t, typ, data, to, rest, e)
}

// puts asks Put.
func puts(t *testing.T, typ int, data string, heads []string, first int, laid string, e api.Errno) {
	t.Helper()
	if n, s, is := Put(typ, data, heads...); n != first || s != laid || is != e {
		t.Errorf("Put(%04x, %x; %d heads %x): %04x, %x (%d bytes), %d, want %04x, %x (%d bytes), %d",
			typ, head(data), len(heads), heads[:min(len(heads), 6)], n, head(s), len(s), is, first, head(laid), len(laid), e)
	}
}

// comesBack asks Put of heads that may be, and, P9.3, that Skip passes over what it laid.
func comesBack(t *testing.T, typ int, data string, heads ...string) {
	t.Helper()
	first, laid, e := modelPut(typ, data, heads...)
	if e != api.OK {
		t.Fatalf("heads %x, type %04x: they may not be", heads, typ)
	}
	puts(t, typ, data, heads, first, laid, api.OK)
	skips(t, first, laid, typ, data, api.OK)
}

// refuses asks Put of what may not be.
func refuses(t *testing.T, typ int, data string, heads ...string) {
	t.Helper()
	puts(t, typ, data, heads, 0, "", api.ErrArg)
}

// headOf tells a head for a header of how long h, of that name.
func headOf(h int, name byte) string { return string([]byte{name}) + "abcdefgh"[:2*h-2] }

// The chapter's examples.
func TestExamples(t *testing.T) {
	skips(t, 0x0800, "\xab", 0x0800, "\xab", api.OK)
	skips(t, 0x0101, "\x08\x00\xab", 0x0800, "\xab", api.OK)
	skips(t, 0x0207, "\x55\x66\x08\x00\xab", 0x0800, "\xab", api.OK)
	skips(t, 0x0001, "\xab", 0, "", api.ErrNone)
	skips(t, 0x0101, "\x08", 0, "", api.ErrForm)
	skips(t, 0x0101, "\x00\x07\xab", 0, "", api.ErrNone)
	skips(t, 65536, "", 0, "", api.ErrArg)
	puts(t, 0x0800, "\xab", []string{"\x07\x55\x66", "\x01"}, 0x0207, "\x55\x66\x01\x01\x08\x00\xab", api.OK)
	refuses(t, 0x0100, "\xab")
	refuses(t, 0x0800, "\xab", "")
	refuses(t, 0x0800, "\xab", "\x01\x02")
}

// P9.1: numbers that are no types, whatever the data.
func TestSkipOfNoType(t *testing.T) {
	for _, typ := range wrongTypes() {
		for _, data := range []string{"", "\x08", "\x08\x00", "\x08\x00\xab", strings.Repeat("\x08\x00", 50)} {
			skips(t, typ, data, 0, "", api.ErrArg)
		}
	}
}

// P9.1: a protocol's type changes nothing, from the least one on, whatever the data.
func TestSkipOfProtocols(t *testing.T) {
	for _, typ := range protocols() {
		for _, data := range []string{"", "\x00", "\x01\x01", "\x08\x00\xab", "packet", strings.Repeat("\x00", 70000)} {
			skips(t, typ, data, typ, data, api.OK)
		}
	}
}

// P9.1: what is how long 0 is passed over by nothing.
func TestSkipOfLongNone(t *testing.T) {
	for typ := range 256 {
		for _, data := range []string{"", "\x08", "\x08\x00", "\x08\x00\xab", strings.Repeat("\x08\x00", 50)} {
			skips(t, typ, data, 0, "", api.ErrNone)
		}
	}
	skips(t, 256, "\x08\x00\xab", 0x0800, "\xab", api.OK)
}

// P9.1: each header's type, with as many bytes as it needs, each number fewer, none, and more.
func TestSkipOfEachHeader(t *testing.T) {
	for typ := 256; typ < 1536; typ++ {
		h := typ / 256
		own := "\x01\x02\x03\x04\x05\x06\x07\x08"[:2*h-2]
		for _, next := range protocols() {
			all := own + two(next)
			skips(t, typ, all, next, "", api.OK)
			skips(t, typ, all+"\xab", next, "\xab", api.OK)
			skips(t, typ, all+all, next, all, api.OK)
			for n := range all {
				skips(t, typ, all[:n], 0, "", api.ErrForm)
			}
		}
	}
}

// P9.1: below Types a header, at Types none.
func TestSkipAtTypes(t *testing.T) {
	skips(t, 0x05ff, "", 0, "", api.ErrForm)
	skips(t, 0x05ff, "123456789", 0, "", api.ErrForm)
	skips(t, 0x05ff, "12345678\x06\x00", 0x0600, "", api.OK)
	skips(t, 0x05ff, "12345678\x05\xff", 0, "", api.ErrForm)
	skips(t, 0x0600, "", 0x0600, "", api.OK)
	skips(t, 0x0600, "12345678\x08\x00", 0x0600, "12345678\x08\x00", api.OK)
	skips(t, 65535, "ab", 65535, "ab", api.OK)
}

// P9.1: a next type that is a header's again, one of how long 0, and one of a protocol, behind each header.
func TestSkipOfTheNext(t *testing.T) {
	for h := 1; h <= 5; h++ {
		own := "abcdefgh"[:2*h-2]
		for g := 1; g <= 5; g++ {
			next := two(g*256 + 9)
			inner := "ABCDEFGH"[:2*g-2]
			skips(t, h*256+7, own+next+inner+"\x86\xddab", 0x86dd, "ab", api.OK)
			skips(t, h*256+7, own+next+inner+"\x00\x00ab", 0, "", api.ErrNone)
			skips(t, h*256+7, own+next+inner+"\x00\xffab", 0, "", api.ErrNone)
			skips(t, h*256+7, own+next+inner+"\x06", 0, "", api.ErrForm)
			skips(t, h*256+7, own+next+inner, 0, "", api.ErrForm)
			skips(t, h*256+7, own+next, 0, "", api.ErrForm)
		}
		// That it can't be passed over counts, whatever bytes are there.
		skips(t, h*256+7, own+"\x00\x07", 0, "", api.ErrNone)
		skips(t, h*256+7, own+"\x00\xff"+strings.Repeat("\x08\x00", 9), 0, "", api.ErrNone)
	}
}

// P9.1: bytes of a header that look like another's are its own.
func TestSkipOfOwnBytes(t *testing.T) {
	skips(t, 0x0201, "\x08\x00\x86\xdd\x01\x01", 0x86dd, "\x01\x01", api.OK)
	skips(t, 0x0301, "\x00\x01\x00\x01\x08\x00", 0x0800, "", api.OK)
	skips(t, 0x0501, "\xff\xff\xff\xff\xff\xff\xff\xff\x01\x00\x08\x06", 0x0806, "", api.OK)
	skips(t, 0x0100, "\x01\x00\x01\x00\x01\x00\xff\xff\x01\x00", 0xffff, "\x01\x00", api.OK)
}

// P9.1: all types there are, with a few bytes of each number.
func TestSkipOfAllTypes(t *testing.T) {
	texts := []string{"", "\x08", "\x02\x03\x02\x03\x02\x03\x02\x03\x08\x00\xab", "\x00\x00\x00\x00\x00\x00\x00\x00\x00\x00", "\x06\x00\x06\x00\x06\x00\x06\x00\x06\x00\x06"}
	for typ := range 1<<16 + 1 {
		for _, s := range texts {
			skipsAsModel(t, typ, s)
		}
	}
}

// P9.1: all next types there are, behind one header and behind two.
func TestSkipOfAllNextTypes(t *testing.T) {
	for next := range 1 << 16 {
		for _, behind := range []string{"", "\x86\xdd", "\x05\xdc\x01", "ABCDEFGH\x06\x00\x01"} {
			skipsAsModel(t, 0x0103, two(next)+behind)
			skipsAsModel(t, 0x0203, "\x01\x01\x01\x02"+two(next)+behind)
		}
	}
}

// P9.1, P9.3: many headers one behind the other, cut off at each byte.
func TestCutOff(t *testing.T) {
	var heads []string
	for i := range 60 {
		heads = append(heads, headOf(1+i*7%5, byte(i*37)))
	}
	first, laid, e := Put(0x0800, "data", heads...)
	if e != api.OK {
		t.Fatal(e)
	}
	for n := range len(laid) + 1 {
		// What is cut off of the data, at the end, no header needs.
		if n < len(laid)-len("data") {
			skips(t, first, laid[:n], 0, "", api.ErrForm)
		} else {
			skips(t, first, laid[:n], 0x0800, laid[len(laid)-4:n], api.OK)
		}
		skipsAsModel(t, first, laid[:n])
	}
}

// P9.1, R1: very many headers end, too, and one of them that is broken, or can't be passed over.
func TestVeryManyHeaders(t *testing.T) {
	const many = 200000
	all := strings.Repeat("\x01\x01", many)
	skips(t, 0x0101, all+"\x08\x00ab", 0x0800, "ab", api.OK)
	skips(t, 0x0101, all+"\x08", 0, "", api.ErrForm)
	skips(t, 0x0101, all+"\x00\x01ab", 0, "", api.ErrNone)
	var heads []string
	for range many {
		heads = append(heads, "\x01")
	}
	puts(t, 0x0800, "ab", heads, 0x0101, all[2:]+"\x08\x00ab", api.OK)
	refuses(t, 0x0800, "ab", append(heads, "")...)
}

// P9.2: bytes that are written out here, of each how long.
func TestBytesOfHeads(t *testing.T) {
	for _, x := range []struct {
		typ   int
		data  string
		heads []string
		first int
		laid  string
	}{
		{0x0600, "", []string{"\x00"}, 0x0100, "\x06\x00"},
		{0xffff, "d", []string{"\xff"}, 0x01ff, "\xff\xffd"},
		{0x0800, "d", []string{"\x80ab"}, 0x0280, "ab\x08\x00d"},
		{0x0800, "d", []string{"\x00abcd"}, 0x0300, "abcd\x08\x00d"},
		{0x0800, "d", []string{"\x01abcdef"}, 0x0401, "abcdef\x08\x00d"},
		{0x86dd, "d", []string{"\xffabcdefgh"}, 0x05ff, "abcdefgh\x86\xddd"},
		{0x86dd, "d", []string{"\x01", "\x02ab", "\x03abcd", "\x04"}, 0x0101, "\x02\x02ab\x03\x03abcd\x01\x04\x86\xddd"},
		{0x86dd, "d", []string{"\xffabcdefgh", "\x00abcdef"}, 0x05ff, "abcdefgh\x04\x00abcdef\x86\xddd"},
		{0x0800, "", []string{"\x05", "\x05", "\x05"}, 0x0105, "\x01\x05\x01\x05\x08\x00"},
	} {
		puts(t, x.typ, x.data, x.heads, x.first, x.laid, api.OK)
		skips(t, x.first, x.laid, x.typ, x.data, api.OK)
	}
}

// P9.2: heads of no bytes, and of 1 to 11 and more of them, alone, first, in the middle and last.
func TestSizesOfHeads(t *testing.T) {
	for n := range 300 {
		x := strings.Repeat("x", n)
		for _, heads := range [][]string{{x}, {x, "\x01"}, {"\x01ab", x, "\x01"}, {"\x01", "\x02ab", "\x03abcd", x}, {x, x}} {
			for _, data := range []string{"", "\xab", strings.Repeat("d", 5000)} {
				if n%2 == 1 && n <= 9 {
					comesBack(t, 0x0800, data, heads...)
				} else {
					refuses(t, 0x0800, data, heads...)
				}
			}
		}
	}
	refuses(t, 0x0800, "\xab", strings.Repeat("x", 1<<16+1))
	refuses(t, 0x0800, "\xab", strings.Repeat("x", 1<<16+9))
}

// P9.2: types for Put below Types and above 65535, with heads that may be and heads that may not.
func TestPutOfWrongTypes(t *testing.T) {
	wrong := append(wrongTypes(), 0, 1, 7, 255, 256, 257, 0x0207, 0x0500, 0x05fe, 0x05ff)
	for _, typ := range wrong {
		for _, heads := range [][]string{nil, {}, {"\x01"}, {"\x07ab", "\x01"}, {"\x01abcdefgh"}, {""}, {"\x01a"}, {"\x01", ""}, {"\x01abcdefghij"}} {
			refuses(t, typ, "", heads...)
			refuses(t, typ, "\x08\x00ab", heads...)
		}
	}
	for typ := range 1<<16 + 1 {
		want := api.OK
		if typ < 1536 || typ > 65535 {
			want = api.ErrArg
		}
		if _, _, e := Put(typ, "ab", "\x01"); e != want {
			t.Errorf("Put(%04x): %d, want %d", typ, e, want)
		}
	}
}

// P9.3: without heads nothing changes; heads that are nil and none are the same.
func TestNoHeads(t *testing.T) {
	for typ := 1536; typ <= 65535; typ++ {
		comesBack(t, typ, "\x01\x01\x08")
	}
	for _, data := range []string{"", "\x00", "\x00\x01", "ab", strings.Repeat("d", 70000)} {
		comesBack(t, 0x0800, data)
		puts(t, 0x0800, data, []string{}, 0x0800, data, api.OK)
	}
}

// P9.3: each name of each how long, ahead of each of some types and of data that is empty and long.
func TestEachHeadComesBack(t *testing.T) {
	for h := 1; h <= 5; h++ {
		for name := range 256 {
			x := headOf(h, byte(name))
			for _, typ := range protocols() {
				comesBack(t, typ, "", x)
				comesBack(t, typ, "\x00\x01\x02", x)
				comesBack(t, typ, "ab", x, x)
			}
			comesBack(t, 0x0800, strings.Repeat("\x01", 5000), x)
		}
	}
	comesBack(t, 0x0800, strings.Repeat("\x01\x00", 1<<20), "\x01", "\x02ab")
}

// P9.3: any heads, any data.
func TestAnyHeadsComeBack(t *testing.T) {
	chance := rand.New(rand.NewSource(93))
	for range 20000 {
		heads := make([]string, chance.Intn(9))
		for i := range heads {
			heads[i] = someBytes(chance, 1+2*chance.Intn(5))
		}
		typ := 1536 + chance.Intn(65536-1536)
		data := someBytes(chance, chance.Intn(40))
		comesBack(t, typ, data, heads...)
		// One that may not be is found, wherever it stands.
		at := chance.Intn(len(heads) + 1)
		wrong := someBytes(chance, []int{0, 2, 4, 6, 8, 10, 11, 13}[chance.Intn(8)])
		refuses(t, typ, data, slices.Insert(slices.Clone(heads), at, wrong)...)
	}
}

// P9.1, R1: any bytes, most of them small, so that they are headers.
func TestAnyBytes(t *testing.T) {
	chance := rand.New(rand.NewSource(91))
	for range 200000 {
		b := []byte(someBytes(chance, chance.Intn(30)))
		for i := range b {
			if chance.Intn(3) > 0 {
				b[i] %= 8
			}
		}
		skipsAsModel(t, chance.Intn(2100)-20, string(b))
	}
}

// P9.1: all rows of up to six bytes, out of those that mean something.
func TestAllShortRows(t *testing.T) {
	of := []byte{0x00, 0x01, 0x02, 0x03, 0x05, 0x06, 0xff}
	var build func(row []byte)
	build = func(row []byte) {
		for _, typ := range []int{0x0000, 0x0100, 0x0201, 0x03ff, 0x0500, 0x0600} {
			skipsAsModel(t, typ, string(row))
		}
		if len(row) == 6 {
			return
		}
		for _, b := range of {
			build(append(row[:len(row):len(row)], b))
		}
	}
	build(nil)
}

// R5: the list of heads is as it was, and may be changed, without the answers changing.
func TestHeadsAreNotKept(t *testing.T) {
	heads := []string{"\x07\x55\x66", "\x01", "\x02ab"}
	before := slices.Clone(heads)
	for _, typ := range []int{0x0800, 0x0100} {
		Put(typ, "\xab", heads[:2]...)
		if !slices.Equal(heads, before) {
			t.Fatalf("heads %x, want %x", heads, before)
		}
	}
	first, laid, _ := Put(0x0800, "\xab", heads[:2]...)
	heads[0], heads[1] = "\xff", "another"
	if first != 0x0207 || laid != "\x55\x66\x01\x01\x08\x00\xab" {
		t.Errorf("%04x, %x", first, laid)
	}
}

// R6: the same again, whatever was asked between.
func TestTheSameAgain(t *testing.T) {
	for range 3 {
		puts(t, 0x0800, "\xab", []string{"\x07\x55\x66", "\x01"}, 0x0207, "\x55\x66\x01\x01\x08\x00\xab", api.OK)
		refuses(t, 0x0800, "\xab", "\x07\x55")
		skips(t, 0x0207, "\x55\x66\x01\x01\x08\x00\xab", 0x0800, "\xab", api.OK)
		skips(t, 0x0207, "\x55\x66\x00\x01\x08\x00\xab", 0, "", api.ErrNone)
		skips(t, 0x0207, "\x55\x66\x01", 0, "", api.ErrForm)
		skips(t, -1, "", 0, "", api.ErrArg)
	}
}

// someBytes makes n bytes.
func someBytes(chance *rand.Rand, n int) string {
	b := make([]byte, n)
	chance.Read(b)
	return string(b)
}

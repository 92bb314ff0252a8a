package bbh

import (
	"fmt"
	"math"
	"math/big"
	"math/rand"
	"strings"
	"testing"

	"aerial/api"
)

// named is one of a header's five numbers, as the chapter's words tell it.
type named struct {
	name     string
	of       func(h *api.Head) *int
	greatest int
	at       int // its first byte
	size     int
}

func five() []named {
	return []named{
		{"MaType", func(h *api.Head) *int { return &h.MaType }, 65535, 0, 2},
		{"Upl", func(h *api.Head) *int { return &h.Upl }, 65535, 2, 2},
		{"Dfl", func(h *api.Head) *int { return &h.Dfl }, 58112, 4, 2},
		{"Sync", func(h *api.Head) *int { return &h.Sync }, 255, 6, 1},
		{"Syncd", func(h *api.Head) *int { return &h.Syncd }, 65535, 7, 2},
	}
}

// with tells a header one number of which is another one.
func with(h api.Head, n named, is int) api.Head {
	*n.of(&h) = is
	return h
}

// mayBe is the chapter's word for a header that may be.
func mayBe(h api.Head) bool {
	for _, n := range five() {
		if is := *n.of(&h); is < 0 || is > n.greatest {
			return false
		}
	}
	return true
}

// sumOf is what the tests hold a header's sum against: the row of bits, with eight bits 0 behind it, divided by x^8 + x^7 + x^6 + x^4 + x^2 + 1.
func sumOf(s string) byte {
	row := make([]byte, 8*len(s)+8)
	for i := range 8 * len(s) {
		row[i] = s[i/8] >> (7 - i%8) & 1
	}
	for i := range 8 * len(s) {
		if row[i] == 0 {
			continue
		}
		for _, power := range []int{8, 7, 6, 4, 2, 0} {
			row[i+8-power] ^= 1
		}
	}
	var n byte
	for _, b := range row[8*len(s):] {
		n = 2*n + b
	}
	return n
}

func withSum(s string) string { return s + string([]byte{sumOf(s)}) }

// encodeModel is what the tests hold Encode against.
func encodeModel(h api.Head) (string, api.Errno) {
	if !mayBe(h) {
		return "", 2
	}
	return withSum(string([]byte{
		byte(h.MaType / 256), byte(h.MaType % 256),
		byte(h.Upl / 256), byte(h.Upl % 256),
		byte(h.Dfl / 256), byte(h.Dfl % 256),
		byte(h.Sync),
		byte(h.Syncd / 256), byte(h.Syncd % 256),
	})), 0
}

// decodeModel is what the tests hold Decode against.
func decodeModel(s string) (api.Head, api.Errno) {
	if len(s) != 10 {
		return api.Head{}, 4
	}
	if s[9] != sumOf(s[:9]) {
		return api.Head{}, 10
	}
	two := func(at int) int { return 256*int(s[at]) + int(s[at+1]) }
	h := api.Head{MaType: two(0), Upl: two(2), Dfl: two(4), Sync: int(s[6]), Syncd: two(7)}
	if !mayBe(h) {
		return api.Head{}, 2
	}
	return h, 0
}

// checks asks whether a header may be.
func checks(t *testing.T, h api.Head, want api.Errno) {
	t.Helper()
	if e := Check(h); e != want {
		t.Errorf("Check(%+v): %d, want %d", h, e, want)
	}
}

// lays asks for a header's bytes.
func lays(t *testing.T, h api.Head, want string) {
	t.Helper()
	checks(t, h, api.OK)
	if s, e := Encode(h); s != want || e != api.OK {
		t.Errorf("Encode(%+v): %x, %d, want %x, OK", h, s, e, want)
	}
}

// mayNot asks for a header that may not be, and for nothing beside its error.
func mayNot(t *testing.T, h api.Head) {
	t.Helper()
	checks(t, h, api.ErrArg)
	if s, e := Encode(h); s != "" || e != api.ErrArg {
		t.Errorf("Encode(%+v): %x, %d, want nothing, ErrArg", h, s, e)
	}
}

// takes asks for what bytes say.
func takes(t *testing.T, s string, want api.Head) {
	t.Helper()
	if h, e := Decode(s); h != want || e != api.OK {
		t.Errorf("Decode(%x): %+v, %d, want %+v, OK", s, h, e, want)
	}
}

// refuses asks for an error of bytes, and for nothing beside it.
func refuses(t *testing.T, s string, want api.Errno) {
	t.Helper()
	if h, e := Decode(s); h != (api.Head{}) || e != want {
		t.Errorf("Decode(%x): %+v, %d, want nothing, %d", s, h, e, want)
	}
}

// likeModel asks all of a header: whether it may be, its bytes, and that it comes back from them.
func likeModel(t *testing.T, h api.Head) {
	t.Helper()
	want, e := encodeModel(h)
	if e != api.OK {
		mayNot(t, h)
		return
	}
	lays(t, h, want)
	takes(t, want, h)
}

// bytesLikeModel asks all of bytes: what they say, and that they are laid again just so.
func bytesLikeModel(t *testing.T, s string) {
	t.Helper()
	want, e := decodeModel(s)
	if e != api.OK {
		refuses(t, s, e)
		return
	}
	takes(t, s, want)
	lays(t, want, s)
}

func noughts() api.Head { return api.Head{} }

func greatest() api.Head {
	return api.Head{MaType: 65535, Upl: 65535, Dfl: 58112, Sync: 255, Syncd: 65535}
}

// samples tells headers that may be.
func samples() []api.Head {
	out := []api.Head{
		noughts(), greatest(),
		{MaType: 0x7200, Upl: 1504, Dfl: 48328, Sync: 0x47, Syncd: 3},
		{MaType: 0x0102, Upl: 0x0304, Dfl: 0x0506, Sync: 0x07, Syncd: 0x0809},
		{MaType: 4200, Dfl: 2992},
		{Dfl: 58112}, {Dfl: 58111}, {Dfl: 57344}, {Dfl: 255}, {Dfl: 256},
	}
	chance := rand.New(rand.NewSource(13))
	for range 10 {
		out = append(out, anyHead(chance))
	}
	return out
}

// anyHead tells a header that may be.
func anyHead(chance *rand.Rand) api.Head {
	h := api.Head{}
	for _, n := range five() {
		h = with(h, n, chance.Intn(n.greatest+1))
	}
	return h
}

// The chapter's examples, one row each.
func TestExamples(t *testing.T) {
	checks(t, api.Head{Dfl: 58112}, api.OK)
	checks(t, api.Head{Dfl: 58113}, api.ErrArg)
	checks(t, api.Head{Sync: 256}, api.ErrArg)
	checks(t, api.Head{Upl: -1}, api.ErrArg)

	s, e := Encode(api.Head{MaType: 4200, Dfl: 2992})
	if e != api.OK || len(s) != 10 || s[:9] != "\x10\x68\x00\x00\x0b\xb0\x00\x00\x00" {
		t.Fatalf("Encode: %x, %d", s, e)
	}
	refuses(t, s[:9], api.ErrForm)
	for pattern := 1; pattern < 256; pattern++ {
		refuses(t, s[:9]+string([]byte{s[9] ^ byte(pattern)}), api.ErrSum)
	}
}

// P13.1: each number by itself, at its edges and beyond, with the others at their least and at their greatest.
func TestEdgesOfEachNumber(t *testing.T) {
	for _, n := range five() {
		for _, h := range []api.Head{noughts(), greatest(), samples()[2], samples()[3]} {
			for _, is := range []int{0, 1, n.greatest - 1, n.greatest} {
				checks(t, with(h, n, is), api.OK)
				likeModel(t, with(h, n, is))
			}
			for _, is := range []int{-1, -2, n.greatest + 1, n.greatest + 2, 2*n.greatest + 2, math.MinInt, math.MinInt + 1, math.MaxInt, math.MaxInt - 1} {
				mayNot(t, with(h, n, is))
			}
			for _, is := range []int{1 << 16, 1 << 31, 1 << 32, 1<<32 + 5, -1 << 16, -1 << 32, 5 - 1<<32} {
				mayNot(t, with(h, n, is))
			}
		}
	}
}

// P13.1: two numbers that may not be, of whichever two, and all five of them.
func TestMoreThanOneWrong(t *testing.T) {
	for _, x := range five() {
		for _, y := range five() {
			mayNot(t, with(with(greatest(), x, x.greatest+1), y, y.greatest+1))
			mayNot(t, with(with(noughts(), x, -1), y, y.greatest+1))
			mayNot(t, with(with(noughts(), x, -1), y, -1))
		}
	}
	mayNot(t, api.Head{MaType: -1, Upl: -1, Dfl: -1, Sync: -1, Syncd: -1})
	mayNot(t, api.Head{MaType: 65536, Upl: 65536, Dfl: 58113, Sync: 256, Syncd: 65536})
}

// P13.1, P13.3: a header of noughts, and one of all the greatest.
func TestLeastAndGreatest(t *testing.T) {
	lays(t, noughts(), strings.Repeat("\x00", 10))
	takes(t, strings.Repeat("\x00", 10), noughts())
	most := withSum("\xff\xff\xff\xff\xe3\x00\xff\xff\xff")
	lays(t, greatest(), most)
	takes(t, most, greatest())
}

// P13.1: what a header's ten bytes are, written out, with a sum that was reckoned elsewhere.
func TestWrittenOut(t *testing.T) {
	lays(t, api.Head{MaType: 0x3132, Upl: 0x3334, Dfl: 0x3536, Sync: 0x37, Syncd: 0x3839}, "123456789\xbc")
	takes(t, "123456789\xbc", api.Head{MaType: 0x3132, Upl: 0x3334, Dfl: 0x3536, Sync: 0x37, Syncd: 0x3839})
	lays(t, api.Head{Syncd: 1}, "\x00\x00\x00\x00\x00\x00\x00\x00\x01\xd5")
}

// P13.1, P13.2: each byte by itself, with each value: it is of its own number, the higher one ahead, and of no other.
func TestEachByteByItself(t *testing.T) {
	for _, n := range five() {
		for k := range n.size {
			for b := range 256 {
				bytes := make([]byte, 9)
				bytes[n.at+k] = byte(b)
				is := b
				if k < n.size-1 {
					is = 256 * b
				}
				s := withSum(string(bytes))
				if is > n.greatest {
					refuses(t, s, api.ErrArg)
					continue
				}
				lays(t, with(noughts(), n, is), s)
				takes(t, s, with(noughts(), n, is))
			}
		}
	}
}

// P13.1 to P13.3: each number there is of two bytes, and of one, of each of the five.
func TestEachNumber(t *testing.T) {
	others := api.Head{MaType: 0x0102, Upl: 0x0304, Dfl: 0x0506, Sync: 0x07, Syncd: 0x0809}
	for _, n := range five() {
		for is := range 1 << (8 * n.size) {
			h := with(others, n, is)
			s, e := Encode(h)
			if is > n.greatest {
				if s != "" || e != api.ErrArg {
					t.Fatalf("Encode(%+v): %x, %d", h, s, e)
				}
				continue
			}
			if e != api.OK || len(s) != 10 {
				t.Fatalf("Encode(%+v): %x, %d", h, s, e)
			}
			if back, e := Decode(s); back != h || e != api.OK {
				t.Fatalf("Decode(%x): %+v, %d, want %+v", s, back, e, h)
			}
		}
	}
}

// P13.2: no byte, one, nine, ten, eleven and many, of noughts, of ones, cut from a header's bytes, and behind them.
func TestHowManyBytes(t *testing.T) {
	most, _ := encodeModel(greatest())
	for n := range 65 {
		for _, s := range []string{strings.Repeat("\x00", n), strings.Repeat("\xff", n), strings.Repeat(most, 7)[:n]} {
			if n != 10 {
				refuses(t, s, api.ErrForm)
			}
			bytesLikeModel(t, s)
		}
	}
	for _, h := range samples() {
		s, _ := encodeModel(h)
		takes(t, s, h)
		for n := range 10 {
			refuses(t, s[:n], api.ErrForm)
			refuses(t, s[10-n:], api.ErrForm)
		}
		refuses(t, s+"\x00", api.ErrForm)
		refuses(t, "\x00"+s, api.ErrForm)
		refuses(t, withSum(s), api.ErrForm)
		refuses(t, withSum(s[:8]), api.ErrForm)
		refuses(t, s+s, api.ErrForm)
		refuses(t, s+strings.Repeat("\x00", 1<<16), api.ErrForm)
		refuses(t, strings.Repeat(s, 1<<16), api.ErrForm)
	}
}

// P13.2: bytes, not letters, are counted.
func TestBytesAreCounted(t *testing.T) {
	refuses(t, "ääääääääää", api.ErrForm)
	bytesLikeModel(t, "äääää")
	bytesLikeModel(t, withSum("ääääz"))
	bytesLikeModel(t, withSum("\xff\xfe\xc3\x28\x80\x80\xc0\xff\xfe"))
}

// P13.2: each last byte that is not the sum of the others.
func TestWrongSums(t *testing.T) {
	for _, h := range samples() {
		s, _ := encodeModel(h)
		for b := range 256 {
			if byte(b) != s[9] {
				refuses(t, s[:9]+string([]byte{byte(b)}), api.ErrSum)
			}
		}
	}
}

// P13.2: the sum stands behind the nine, not ahead of them, and is of all nine.
func TestWhereTheSumStands(t *testing.T) {
	s := withSum("123456789")
	refuses(t, s[9:]+s[:9], api.ErrSum)
	for i := range 9 {
		b := []byte(s)
		b[i] = 0
		refuses(t, string(b), api.ErrSum)
	}
}

// P13.2: the sum is right, and what is said may not be: Dfl alone may be too great.
func TestDflTooGreat(t *testing.T) {
	bytesOf := func(dfl int, rest byte) string {
		b := []byte{rest, rest, rest, rest, byte(dfl / 256), byte(dfl % 256), rest, rest, rest}
		return withSum(string(b))
	}
	for _, rest := range []byte{0, 1, 0x80, 0xff} {
		all := 257 * int(rest)
		takes(t, bytesOf(58112, rest), api.Head{MaType: all, Upl: all, Dfl: 58112, Sync: int(rest), Syncd: all})
		takes(t, bytesOf(58111, rest), api.Head{MaType: all, Upl: all, Dfl: 58111, Sync: int(rest), Syncd: all})
		for dfl := 58113; dfl < 65536; dfl++ {
			refuses(t, bytesOf(dfl, rest), api.ErrArg)
		}
	}
}

// R2, P13.2: several wrongs at once: how many bytes, ahead of the sum, ahead of what they say.
func TestSeveralWrongs(t *testing.T) {
	tooGreat := withSum("\x00\x00\x00\x00\xff\xff\x00\x00\x00")
	refuses(t, tooGreat, api.ErrArg)
	turned := tooGreat[:9] + string([]byte{tooGreat[9] ^ 1})
	refuses(t, turned, api.ErrSum)
	refuses(t, tooGreat+"\x00", api.ErrForm)
	refuses(t, turned+"\x00", api.ErrForm)
	refuses(t, tooGreat[:9], api.ErrForm)
	refuses(t, strings.Repeat("\xff", 9), api.ErrForm)
	refuses(t, strings.Repeat("\xff", 10), api.ErrSum)
	refuses(t, strings.Repeat("\xff", 11), api.ErrForm)
}

// P13.3: headers come back from their bytes, and bytes that are taken are laid again just so.
func TestThereAndBack(t *testing.T) {
	for _, h := range samples() {
		likeModel(t, h)
	}
	chance := rand.New(rand.NewSource(133))
	for range 20000 {
		likeModel(t, anyHead(chance))
		b := make([]byte, 9)
		chance.Read(b)
		bytesLikeModel(t, withSum(string(b)))
		bytesLikeModel(t, string(b)+"\x2a")
	}
}

// turn turns those bits of s that are 1 in pattern, behind the lowest of which as many bits stand as behind says. It tells false if one of them stands ahead of the row.
func turn(s string, behind uint, pattern int64) (string, bool) {
	row := new(big.Int).SetBytes([]byte(s))
	row.Xor(row, new(big.Int).Lsh(big.NewInt(pattern), behind))
	if row.BitLen() > 8*len(s) {
		return "", false
	}
	return string(row.FillBytes(make([]byte, len(s)))), true
}

// P13.3: each way to turn bits within eight, at each place: within a byte, across two, in the sum, and across its border; also where what is said then would be too great, or was.
func TestTurnedBitsAreTold(t *testing.T) {
	var rows []string
	for _, h := range samples() {
		s, _ := encodeModel(h)
		rows = append(rows, s)
	}
	rows = append(rows, withSum("\x00\x00\x00\x00\xff\xff\x00\x00\x00"))
	for _, s := range rows {
		turns := 0
		for behind := range uint(80) {
			for pattern := range int64(255) {
				if turned, ok := turn(s, behind, pattern+1); ok {
					refuses(t, turned, api.ErrSum)
					turns++
				}
			}
		}
		// At 73 places all patterns, and at the last seven those that go in.
		if turns != 73*255+127+63+31+15+7+3+1 {
			t.Fatalf("%d turns", turns)
		}
	}
}

// P13.2: nothing but the sum is asked of what was turned: nine bits, turned as the generator is, leave the sum right, at each place.
func TestTurnedAsTheGenerator(t *testing.T) {
	for _, h := range samples() {
		s, _ := encodeModel(h)
		for behind := range uint(72) {
			turned, ok := turn(s, behind, 0x1d5)
			if !ok {
				t.Fatalf("nine bits with %d behind them do not go in", behind)
			}
			if h, e := Decode(turned); e == api.ErrSum {
				t.Errorf("Decode(%x): %+v, %d", turned, h, e)
			}
			bytesLikeModel(t, turned)
		}
	}
}

// R1, R6: the same calls answer the same, whatever was called between.
func TestSameAgain(t *testing.T) {
	type answer struct {
		check, encode, decode api.Errno
		s                     string
		h                     api.Head
	}
	ask := func(h api.Head, s string) answer {
		var a answer
		a.check = Check(h)
		a.s, a.encode = Encode(h)
		a.h, a.decode = Decode(s)
		return a
	}
	heads := append(samples(), api.Head{Dfl: 58113}, api.Head{Sync: -1})
	var first []answer
	for i, h := range heads {
		first = append(first, ask(h, fmt.Sprintf("123456789%c", rune(i))))
	}
	for i := len(heads) - 1; i >= 0; i-- {
		for range 2 {
			if a := ask(heads[i], fmt.Sprintf("123456789%c", rune(i))); a != first[i] {
				t.Errorf("%+v: %+v, want %+v", heads[i], a, first[i])
			}
		}
	}
}

// R1, P13.1: whatever numbers there are.
func FuzzHead(f *testing.F) {
	f.Add(4200, 0, 2992, 0, 0)
	f.Add(65535, 65535, 58112, 255, 65535)
	f.Add(-1, 65536, 58113, 256, math.MinInt)
	f.Fuzz(func(t *testing.T, a, b, c, d, e int) {
		likeModel(t, api.Head{MaType: a, Upl: b, Dfl: c, Sync: d, Syncd: e})
	})
}

// R1, P13.2, P13.3: whatever bytes there are, alone, with their sum behind them, and turned.
func FuzzBytes(f *testing.F) {
	f.Add("123456789", uint(1), byte(0xd5))
	f.Add("123456789\xbc", uint(72), byte(0x80))
	f.Add("", uint(0), byte(1))
	f.Fuzz(func(t *testing.T, s string, behind uint, pattern byte) {
		bytesLikeModel(t, s)
		whole := withSum(s)
		bytesLikeModel(t, whole)
		turned, ok := turn(whole, behind%uint(8*len(whole)), int64(pattern))
		if ok && pattern != 0 && len(whole) == 10 {
			refuses(t, turned, api.ErrSum)
		}
	})
}

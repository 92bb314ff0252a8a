package pdu

import (
	"math"
	"math/rand"
	"strings"
	"testing"

	"aerial/api"
)

// greatest is what a total is at most.
const greatest = 65535

var (
	abc    = api.Label{Kind: api.LabelThree, Bytes: "abc"}
	zeros  = api.Label{Kind: api.LabelThree, Bytes: "\x00\x00\x00"}
	abcdef = api.Label{Kind: api.LabelSix, Bytes: "abcdef"}
	ones   = api.Label{Kind: api.LabelSix, Bytes: "\xff\xff\xff\xff\xff\xff"}
	all    = api.Label{Kind: api.LabelAll}
	same   = api.Label{Kind: api.LabelSame}
)

// labels tells labels of each kind that may be.
func labels() []api.Label { return []api.Label{abc, zeros, abcdef, ones, all, same} }

// wrongLabels tells labels that may not be: of kinds below and above, and with bytes that are not as many as the kind's.
func wrongLabels() []api.Label {
	var out []api.Label
	for _, kind := range []int{-1, -2, -4, 4, 5, 9, 256, 1 << 32, math.MinInt, math.MaxInt} {
		for _, bytes := range []string{"", "a", "abc", "abcdef"} {
			out = append(out, api.Label{Kind: kind, Bytes: bytes})
		}
	}
	for kind, few := range [][]string{{"", "abc", "abcde", "abcdefg"}, {"", "ab", "abcd", "abcdef"}, {"a", "abc", "abcdef"}, {"a", "abc", "abcdef"}} {
		for _, bytes := range few {
			out = append(out, api.Label{Kind: kind, Bytes: bytes})
		}
	}
	return append(out, api.Label{Kind: api.LabelThree, Bytes: strings.Repeat("a", greatest+1)})
}

// types tells types, from the least to the greatest.
func types() []int { return []int{0, 1, 255, 256, 0x0101, 0x0600, 2048, 2049, 0x86dd, 65534, 65535} }

// wrongTypes tells numbers that are no types, next to them and far from them.
func wrongTypes() []int {
	return []int{
		-1, -2, -256, -65535, -65536, -1 << 31, -1 << 32, math.MinInt + 1, math.MinInt,
		65536, 65537, 65536 + 2048, 1 << 17, 1 << 31, 1 << 32, 1<<32 + 2048, math.MaxInt - 1, math.MaxInt,
	}
}

// samples tells data, from none to a few hundred bytes.
func samples() []string {
	chance := rand.New(rand.NewSource(10))
	out := []string{"", "\x00", "\xff", "hello", "\xc3\x28 no text", "ä €", strings.Repeat("\x00", 300), strings.Repeat("\xff", 300)}
	for _, n := range []int{2, 3, 4, 31, 32, 33, 246, 247, 251, 252, 253, 254, 255, 256} {
		out = append(out, someBytes(chance, n))
	}
	return out
}

func someBytes(chance *rand.Rand, n int) string {
	b := make([]byte, n)
	chance.Read(b)
	return string(b)
}

// tooLong tells how many bytes of data are too many with a label: one more, and far more, with totals among them whose two lower bytes look right.
func tooLong(l api.Label) []int {
	most := greatest - modelTotal(l, 0)
	return []int{most + 1, most + 2, greatest, greatest + 1, greatest + 6, 1<<17 - 2, 1 << 17, 300000}
}

// modelSizes is how many bytes a label of a kind has.
var modelSizes = map[int]int{0: 6, 1: 3, 2: 0, 3: 0}

// modelTotal is the chapter's words, of a label that may be.
func modelTotal(l api.Label, n int) int { return 2 + modelSizes[l.Kind] + n }

// modelSum is the chapter's words, of a packet that has a sum, with the sum of 32 bits bit by bit.
func modelSum(typ int, l api.Label, data string) string {
	register := uint32(0xffffffff)
	for _, b := range []byte(two(modelTotal(l, len(data))) + two(typ) + l.Bytes + data) {
		for place := 7; place >= 0; place-- {
			came := register>>31 != uint32(b)>>place&1
			register <<= 1
			if came {
				register ^= 0x04c11db7
			}
		}
	}
	return four(register)
}

// two tells a number in two bytes.
func two(n int) string { return string([]byte{byte(n / 256), byte(n % 256)}) }

// four tells the four bytes of a sum, the highest first.
func four(n uint32) string {
	return string([]byte{byte(n >> 24), byte(n >> 16), byte(n >> 8), byte(n)})
}

// head tells a text in few signs, for a test's report.
func head(s string) string { return s[:min(len(s), 24)] }

// turn turns bits of s: those that are 1 in pattern, whose highest bit stands at the place at of the row. It tells false if one of them stands behind the row.
func turn(s string, at int, pattern uint32) (string, bool) {
	out := []byte(s)
	for k := range 32 {
		if pattern>>(31-k)&1 == 0 {
			continue
		}
		if at+k >= 8*len(s) {
			return "", false
		}
		out[(at+k)/8] ^= 0x80 >> ((at + k) % 8)
	}
	return string(out), true
}

func total(t *testing.T, l api.Label, n, want int) {
	t.Helper()
	if got := Total(l, n); got != want {
		t.Errorf("Total(%d %x, %d): %d, want %d", l.Kind, head(l.Bytes), n, got, want)
	}
}

// sums asks Sum.
func sums(t *testing.T, typ int, l api.Label, data, want string, e api.Errno) {
	t.Helper()
	if got, is := Sum(typ, l, data); got != want || is != e {
		t.Errorf("Sum(%d, %d %x, %x), %d bytes: %x, %d, want %x, %d", typ, l.Kind, head(l.Bytes), head(data), len(data), got, is, want, e)
	}
}

// right asks Right.
func right(t *testing.T, total, typ int, l api.Label, data, sum string, e api.Errno) {
	t.Helper()
	if is := Right(total, typ, l, data, sum); is != e {
		t.Errorf("Right(%d, %d, %d %x, %x, %x), %d bytes: %d, want %d", total, typ, l.Kind, head(l.Bytes), head(data), head(sum), len(data), is, e)
	}
}

// comesRight asks that a packet has the model's total and sum, and is right with them.
func comesRight(t *testing.T, typ int, l api.Label, data string) {
	t.Helper()
	total(t, l, len(data), modelTotal(l, len(data)))
	sums(t, typ, l, data, modelSum(typ, l, data), api.OK)
	right(t, modelTotal(l, len(data)), typ, l, data, modelSum(typ, l, data), api.OK)
	// And with what it tells itself.
	own, _ := Sum(typ, l, data)
	right(t, Total(l, len(data)), typ, l, data, own, api.OK)
}

// refuses asks for an error of Sum, and for the same one of Right, whatever total and sum come with it.
func refuses(t *testing.T, typ int, l api.Label, data string, e api.Errno) {
	t.Helper()
	sums(t, typ, l, data, "", e)
	looksRight := modelSum(typ&greatest, l, data)
	for _, total := range []int{Total(l, len(data)), modelTotal(l, len(data)), modelTotal(l, len(data)) % 65536, 0, -1, greatest, greatest + 1} {
		for _, sum := range []string{"", "abc", looksRight, "abcde"} {
			right(t, total, typ, l, data, sum, e)
		}
	}
}

// The chapter's examples.
func TestExamples(t *testing.T) {
	total(t, abc, 5, 10)
	total(t, all, 0, 2)
	total(t, abc, -1, 0)
	sums(t, 2048, abc, "hello", "\x76\xf4\x01\x2b", api.OK)
	sums(t, 65536, abc, "", "", api.ErrArg)
	sums(t, 1, abc, strings.Repeat("d", 65531), "", api.ErrLong)
	sums(t, 1, api.Label{Kind: 9}, "", "", api.ErrArg)
}

// P10.1: labels of each kind that may be, with numbers of bytes up to the greatest one, where the total is above it.
func TestTotal(t *testing.T) {
	for _, n := range []int{0, 1, 2, 5, 255, 256, 1000, 65518, 65519, 65520, 65526, 65527, 65528, 65529, 65530, 65531, 65532, 65533, 65534, 65535} {
		for _, l := range []api.Label{abcdef, ones} {
			total(t, l, n, n+8)
		}
		for _, l := range []api.Label{abc, zeros} {
			total(t, l, n, n+5)
		}
		total(t, all, n, n+2)
		total(t, same, n, n+2)
	}
	total(t, abcdef, 65535, 65543)
	total(t, same, 65535, 65537)
}

// P10.1: numbers of bytes that may not be.
func TestTotalOfWrongNumbers(t *testing.T) {
	for _, l := range labels() {
		for _, n := range []int{-1, -2, -5, -8, -9, -65535, -65536, -1 << 32, math.MinInt + 1, math.MinInt, 65536, 65537, 65541, 1 << 17, 1 << 31, 1<<32 + 5, math.MaxInt - 7, math.MaxInt - 1, math.MaxInt} {
			total(t, l, n, 0)
		}
	}
}

// P10.1: labels that may not be, with numbers that may be and that may not.
func TestTotalOfWrongLabels(t *testing.T) {
	for _, l := range wrongLabels() {
		for _, n := range []int{math.MinInt, -1, 0, 1, 5, 65535, 65536, math.MaxInt} {
			total(t, l, n, 0)
		}
	}
}

// P10.2: sums that were reckoned elsewhere.
func TestSumsThatAreKnown(t *testing.T) {
	six := api.Label{Kind: api.LabelSix, Bytes: "\x00\x01\x02\x03\x04\x05"}
	for _, x := range []struct {
		typ  int
		l    api.Label
		data string
		want uint32
	}{
		{0, all, "", 0xc4b58475},
		{0, same, "", 0xc4b58475},
		{65535, all, "", 0x3bfde008},
		{2048, abcdef, "hello", 0x54981733},
		{2048, abc, "defhello", 0x54981733},
		{0x0801, six, "a packet that goes in pieces", 0x8a234522},
		{0x86dd, all, strings.Repeat("\x00", 256), 0x3c47c592},
		{2048, abc, strings.Repeat("d", 65530), 0xabff94e5},
		{2048, abcdef, strings.Repeat("d", 65527), 0xa3f6df3c},
		{2048, all, strings.Repeat("d", 65533), 0x8e022bf5},
	} {
		sums(t, x.typ, x.l, x.data, four(x.want), api.OK)
	}
}

// P10.2, P10.4: each label with each type and all samples.
func TestSamplesComeRight(t *testing.T) {
	for _, l := range labels() {
		for _, typ := range types() {
			for _, data := range samples() {
				comesRight(t, typ, l, data)
			}
		}
	}
}

// P10.2, P10.4: all types there are.
func TestAllTypesComeRight(t *testing.T) {
	for typ := range 65536 {
		comesRight(t, typ, abc, "hi")
		comesRight(t, typ, all, "")
	}
}

// P10.2, P10.4: the most data that goes with each label.
func TestMostDataComesRight(t *testing.T) {
	chance := rand.New(rand.NewSource(104))
	for _, l := range labels() {
		for _, fewer := range []int{0, 1, 2, 255, 256} {
			comesRight(t, 2048, l, someBytes(chance, greatest-modelTotal(l, 0)-fewer))
		}
	}
}

// P10.2, P10.3: data with which the total is above the greatest one.
func TestTooLong(t *testing.T) {
	for _, l := range labels() {
		for _, n := range tooLong(l) {
			for _, typ := range []int{0, 2048, 65535} {
				refuses(t, typ, l, strings.Repeat("d", n), api.ErrLong)
			}
		}
	}
}

// P10.2, P10.3: numbers that are no types, with data that may be and with too much.
func TestWrongTypes(t *testing.T) {
	for _, typ := range wrongTypes() {
		for _, l := range labels() {
			refuses(t, typ, l, "", api.ErrArg)
			refuses(t, typ, l, "hello", api.ErrArg)
		}
		refuses(t, typ, abc, strings.Repeat("d", 65530), api.ErrArg)
		refuses(t, typ, abc, strings.Repeat("d", 65531), api.ErrArg)
		refuses(t, typ, all, strings.Repeat("d", 1<<17), api.ErrArg)
	}
}

// P10.2, P10.3: labels that may not be, with types and data that may be and that may not.
func TestWrongLabels(t *testing.T) {
	for _, l := range wrongLabels() {
		for _, typ := range []int{math.MinInt, -1, 0, 2048, 65535, 65536, math.MaxInt} {
			refuses(t, typ, l, "", api.ErrArg)
			refuses(t, typ, l, "hello", api.ErrArg)
		}
		refuses(t, 2048, l, strings.Repeat("d", 65534), api.ErrArg)
		refuses(t, -1, l, strings.Repeat("d", 70000), api.ErrArg)
	}
}

// wrongTotals tells totals that are not n: next to it, far from it, and such as look like it in two bytes or in four.
func wrongTotals(n int) []int {
	return []int{
		n - 1, n + 1, n - 2, n + 2, n - 3, n + 3, n ^ 0x8000, -n, 0, -1, math.MinInt, math.MaxInt,
		65536, 65537, n + 65536, n - 65536, n + 1<<17, n + 1<<32, n - 1<<32, n | math.MinInt,
	}
}

// P10.3, P10.4: a total that is not the packet's own, with its sum, and with sums that are wrong too.
func TestWrongTotals(t *testing.T) {
	for _, l := range labels() {
		for _, data := range append(samples(), strings.Repeat("d", greatest-modelTotal(l, 0))) {
			sum := modelSum(2048, l, data)
			for _, n := range wrongTotals(modelTotal(l, len(data))) {
				for _, s := range []string{sum, "", sum[:3], sum + "\x00", "\x00\x00\x00\x00"} {
					right(t, n, 2048, l, data, s, api.ErrForm)
				}
			}
		}
	}
}

// P10.3: the total stands for the label's kind: with one of another size it is not the packet's.
func TestTotalsOfOtherLabels(t *testing.T) {
	data := "hello"
	for _, l := range labels() {
		for _, x := range labels() {
			if modelSizes[l.Kind] != modelSizes[x.Kind] {
				right(t, modelTotal(x, len(data)), 2048, l, data, modelSum(2048, l, data), api.ErrForm)
				right(t, modelTotal(x, len(data)), 2048, l, data, modelSum(2048, x, data), api.ErrForm)
			}
		}
	}
}

// P10.3: sums of other sizes than four bytes.
func TestSumsOfWrongSizes(t *testing.T) {
	for _, l := range labels() {
		for _, data := range samples() {
			n, sum := modelTotal(l, len(data)), modelSum(2048, l, data)
			for size := range len(sum) {
				right(t, n, 2048, l, data, sum[:size], api.ErrSum)
				right(t, n, 2048, l, data, sum[len(sum)-size:], api.ErrSum)
			}
			for _, s := range []string{sum + "\x00", "\x00" + sum, sum + sum, sum + data + "a", strings.Repeat(sum, 20000)} {
				right(t, n, 2048, l, data, s, api.ErrSum)
			}
		}
	}
}

// P10.3: sums of four bytes that are not the packet's: each with one bit turned, with its bytes the other way about, and one that has none of its bits.
func TestWrongSums(t *testing.T) {
	for _, l := range labels() {
		for _, data := range samples() {
			n, sum := modelTotal(l, len(data)), modelSum(2048, l, data)
			for bit := range 32 {
				s, _ := turn(sum, bit, 0x80000000)
				right(t, n, 2048, l, data, s, api.ErrSum)
			}
			s, _ := turn(sum, 0, math.MaxUint32)
			right(t, n, 2048, l, data, s, api.ErrSum)
		}
	}
	right(t, 10, 2048, abc, "hello", "\x2b\x01\xf4\x76", api.ErrSum)
	right(t, 10, 2048, abc, "hello", "\x01\x2b\x76\xf4", api.ErrSum)
}

// P10.3: the right sum of another packet: of another type, label or data, of the same total.
func TestSumsOfOtherPackets(t *testing.T) {
	chance := rand.New(rand.NewSource(103))
	for range 2000 {
		l := labels()[chance.Intn(len(labels()))]
		data := someBytes(chance, chance.Intn(60))
		typ := chance.Intn(65536)
		n := modelTotal(l, len(data))
		right(t, n, typ, l, data, modelSum(typ^1<<chance.Intn(16), l, data), api.ErrSum)
		if l.Bytes != "" {
			x, _ := turn(l.Bytes, chance.Intn(8*len(l.Bytes)), 0x80000000)
			right(t, n, typ, l, data, modelSum(typ, api.Label{Kind: l.Kind, Bytes: x}, data), api.ErrSum)
		}
		if data != "" {
			x, _ := turn(data, chance.Intn(8*len(data)), 0x80000000)
			right(t, n, typ, l, data, modelSum(typ, l, x), api.ErrSum)
		}
		right(t, n, typ, l, data, modelSum(typ, l, data+"\x00"), api.ErrSum)
	}
}

// P10.3: a packet's type counts in all its bits.
func TestSumsOfOtherTypes(t *testing.T) {
	sum := modelSum(2048, abc, "hello")
	for typ := range 65536 {
		want := api.ErrSum
		if typ == 2048 {
			want = api.OK
		}
		right(t, 10, typ, abc, "hello", sum, want)
	}
}

// P10.2, P10.3: bytes that are dealt otherwise between label and data are summed alike, as nothing in the sum stands between them; another type, or another order, is not.
func TestBytesDealtOtherwise(t *testing.T) {
	const bytes = "abcdefhello"
	sum := modelSum(2048, abcdef, bytes[6:])
	for _, l := range []api.Label{abcdef, abc, all, same} {
		data := bytes[len(l.Bytes):]
		total(t, l, len(data), 13)
		sums(t, 2048, l, data, sum, api.OK)
		right(t, 13, 2048, l, data, sum, api.OK)
		right(t, 13, 2049, l, data, sum, api.ErrSum)
		right(t, 13, 0, l, data, sum, api.ErrSum)
		right(t, 13, 2048, l, data[1:]+data[:1], sum, api.ErrSum)
	}
	// The type's bytes are not the label's, nor the total's.
	right(t, 8, 0x6162, abc, "def", modelSum(0x6364, api.Label{Kind: api.LabelThree, Bytes: "efa"}, "bcd"), api.ErrSum)
	right(t, 8, 0x0800, abc, "def", modelSum(0x0008, abc, "def"), api.ErrSum)
}

// P10.2, P10.3, R2: of several wrongs the one that stands first in the promise is told.
func TestSeveralWrongs(t *testing.T) {
	long := strings.Repeat("d", 65531)
	wrong := api.Label{Kind: api.LabelSix, Bytes: "abc"}
	sums(t, -1, wrong, long, "", api.ErrArg)
	sums(t, -1, abc, long, "", api.ErrArg)
	sums(t, 2048, wrong, long, "", api.ErrArg)
	sums(t, 2048, abc, long, "", api.ErrLong)
	for _, sum := range []string{"", "abcd", modelSum(2048, abc, long)} {
		right(t, 0, -1, abc, long, sum, api.ErrArg)
		right(t, 0, 2048, wrong, long, sum, api.ErrArg)
		right(t, 0, 2048, abc, long, sum, api.ErrLong)
		right(t, 65536, 2048, abc, long, sum, api.ErrLong)
		right(t, 0, 2048, abc, long[1:], sum, api.ErrForm)
		right(t, 65534, 2048, abc, long[1:], sum, api.ErrForm)
		right(t, 65535, 2048, abc, long[1:], sum, api.ErrSum)
	}
}

// told asks that a packet with bits of its data turned is not right; and that it is the sum which tells.
func told(t *testing.T, typ int, l api.Label, data, sum string, at int, pattern uint32) {
	t.Helper()
	if turned, ok := turn(data, at, pattern); ok {
		right(t, modelTotal(l, len(data)), typ, l, turned, sum, api.ErrSum)
	}
}

// patterns tells ways to turn bits within 32: the highest one always, so that the place is that of the first one; with one, with two from next to one another to 32 apart, with all, and with any.
func patterns() []uint32 {
	out := []uint32{0x80000000, 0xffffffff, 0xff000000, 0x80808080, 0xaaaaaaaa, 0x82608edb, 0x84c11db7}
	for apart := 1; apart < 32; apart++ {
		out = append(out, 0x80000000|0x80000000>>apart)
	}
	chance := rand.New(rand.NewSource(1004))
	for range 30 {
		out = append(out, chance.Uint32()|0x80000000)
	}
	return out
}

// P10.4: bits of the data turned within 32, at each place, with each label.
func TestTurnedBitsAreTold(t *testing.T) {
	for _, l := range labels() {
		for _, data := range []string{"\x00", "\xff", "ab", "hell", "hello", "a packet that goes in pieces", strings.Repeat("\x00", 9), strings.Repeat("\xff", 9)} {
			sum := modelSum(2048, l, data)
			for at := range 8 * len(data) {
				for _, pattern := range patterns() {
					told(t, 2048, l, data, sum, at, pattern)
				}
			}
		}
	}
}

// P10.4: bits of each sample, and of the most data there may be.
func TestTurnedBitsOfMoreDataAreTold(t *testing.T) {
	for _, data := range samples() {
		sum := modelSum(0x86dd, abcdef, data)
		for at := range 8 * len(data) {
			told(t, 0x86dd, abcdef, data, sum, at, 0x80000000)
			told(t, 0x86dd, abcdef, data, sum, at, 0x80000001)
		}
	}
	data := someBytes(rand.New(rand.NewSource(4)), 65530)
	sum, end := modelSum(2048, abc, data), 8*len(data)
	for _, at := range []int{0, 1, 7, 8, 31, 32, end / 2, end - 33, end - 32, end - 1} {
		for _, pattern := range []uint32{0x80000000, 0x80000001, 0xc0000000, 0x84c11db7, 0xffffffff} {
			told(t, 2048, abc, data, sum, at, pattern)
		}
	}
}

// R6: what a call answers does not hang on the calls ahead of it.
func TestSameAgain(t *testing.T) {
	for range 3 {
		for _, data := range samples() {
			comesRight(t, 2048, abc, data)
			refuses(t, -1, abc, data, api.ErrArg)
			right(t, modelTotal(abc, len(data)), 2048, abc, data, "\x00\x00\x00\x00", api.ErrSum)
		}
	}
}

// P10.1 to P10.4, R1: whatever there is; what may not be is refused, all else comes right, and turned bits are told.
func FuzzRight(f *testing.F) {
	f.Add(10, 2048, 1, "abc", "hello", "\x76\xf4\x01\x2b", uint(3), uint32(0x80000001))
	f.Add(0, 65536, 4, "", "", "", uint(0), uint32(1))
	f.Fuzz(func(t *testing.T, n, typ, kind int, bytes, data, sum string, place uint, pattern uint32) {
		l := api.Label{Kind: kind, Bytes: bytes}
		size, is := modelSizes[kind]
		if !is || size != len(bytes) {
			total(t, l, n, 0)
			refuses(t, typ, l, data, api.ErrArg)
			return
		}
		if typ < 0 || typ > 65535 {
			refuses(t, typ, l, data, api.ErrArg)
			return
		}
		if modelTotal(l, len(data)) > greatest {
			refuses(t, typ, l, data, api.ErrLong)
			return
		}
		comesRight(t, typ, l, data)
		want := api.OK
		if n != modelTotal(l, len(data)) {
			want = api.ErrForm
		} else if sum != modelSum(typ, l, data) {
			want = api.ErrSum
		}
		right(t, n, typ, l, data, sum, want)
		if data != "" && pattern != 0 {
			told(t, typ, l, data, modelSum(typ, l, data), int(place%uint(8*len(data))), pattern)
		}
	})
}

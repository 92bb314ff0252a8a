package crc32

import (
	"math/rand"
	"strings"
	"testing"
)

// maxLong is as many bytes as the longest texts of the tests have.
const maxLong = 1 << 16

// model is what the tests hold Sum against: the promise's register as a row of 32 bits, the highest first, and each bit of the text in its order.
func model(s string) uint32 {
	lower := bitsOf("\x04\xc1\x1d\xb7")
	row := bitsOf("\xff\xff\xff\xff")
	for _, bit := range bitsOf(s) {
		came := row[0] != bit
		row = append(row[1:], 0)
		for k := range row {
			if came {
				row[k] ^= lower[k]
			}
		}
	}
	return number(row)
}

// rest is the other thing the tests hold Sum against: the text's polynomial, with 32 bits 0 behind it, and its first 32 bits turned, divided by the generator.
func rest(s string) uint32 {
	divisor := append([]byte{1}, bitsOf("\x04\xc1\x1d\xb7")...)
	row := append(bitsOf(s), make([]byte, 32)...)
	for i := range 32 {
		row[i] ^= 1
	}
	for i := range 8 * len(s) {
		if row[i] == 0 {
			continue
		}
		for k, d := range divisor {
			row[i+k] ^= d
		}
	}
	return number(row[8*len(s):])
}

// number tells the number of a row of bits.
func number(row []byte) uint32 {
	var n uint32
	for _, b := range row {
		n = 2*n + uint32(b)
	}
	return n
}

// bitsOf tells the bits of s in their row.
func bitsOf(s string) []byte {
	var row []byte
	for i := range len(s) {
		for place := 7; place >= 0; place-- {
			row = append(row, s[i]>>place&1)
		}
	}
	return row
}

// turn turns bits of s: those that are 1 in pattern, whose highest bit stands at the place at of the row. It tells false if one of them stands behind the row.
func turn(s string, at int, pattern uint32) (string, bool) {
	out := []byte(s)
	for k := range 32 {
		if pattern>>(31-k)&1 == 0 {
			continue
		}
		if at+k >= 8*len(s) {
			return "", false
		}
		out[(at+k)/8] ^= 0x80 >> ((at + k) % 8)
	}
	return string(out), true
}

// bytesOf tells the four bytes of a sum, the highest first.
func bytesOf(n uint32) string {
	return string([]byte{byte(n >> 24), byte(n >> 16), byte(n >> 8), byte(n)})
}

// patterns tells ways to turn bits within 32: the highest one always, so that the place is that of the first one.
func patterns() []uint32 {
	out := []uint32{0x80000000, 0x80000001, 0xffffffff, 0xc0000000, 0x81000000, 0xff000000, 0x80800000, 0x80808080, 0x80010000, 0xaaaaaaaa, 0x82608edb, 0x84c11db7}
	chance := rand.New(rand.NewSource(5))
	for range 40 {
		out = append(out, chance.Uint32()|0x80000000)
	}
	return out
}

// samples tells texts of all lengths up to 40, and of some beyond; of noughts, of ones, and of bytes in no order.
func samples() []string {
	chance := rand.New(rand.NewSource(2))
	var out []string
	long := []int{63, 64, 65, 255, 256, 257, 1000}
	for n := range 41 {
		long = append(long, n)
	}
	for _, n := range long {
		b := make([]byte, n)
		chance.Read(b)
		out = append(out, string(b), strings.Repeat("\x00", n), strings.Repeat("\xff", n))
	}
	return append(out, "a packet of bytes", "\xc3\x28 no text", "ä €", "\x04\xc1\x1d\xb7")
}

func sum(t *testing.T, s string, want uint32) {
	t.Helper()
	if n := Sum(s); n != want {
		t.Errorf("Sum(% x): %08x, want %08x", s, n, want)
	}
}

// told asks that s and s with bits turned have unlike sums.
func told(t *testing.T, s string, at int, pattern uint32) {
	t.Helper()
	turned, ok := turn(s, at, pattern)
	if ok && Sum(turned) == Sum(s) {
		t.Errorf("% x: %032b turned at bit %d has the same sum", s, pattern, at)
	}
}

// The chapter's examples, one row each.
func TestExamples(t *testing.T) {
	sum(t, "", 0xffffffff)
	sum(t, "123456789", 0x0376e6e7)
	sum(t, "\x00", 0x4e08bfb4)
	sum(t, "123456789\x03\x76\xe6\xe7", 0)
}

// P3.1: each byte alone, and each one behind and ahead of others, across the register's width.
func TestSumOfFewBytes(t *testing.T) {
	for b := range 256 {
		one := string([]byte{byte(b)})
		for _, s := range []string{one, "\x47" + one, one + "\x47", "1234" + one, one + "12345"} {
			sum(t, s, model(s))
		}
	}
}

// P3.1: the register begins with bits 1, so that noughts, ahead of bytes or behind them, change the sum; four bytes of ones bring it to 0, where noughts change nothing.
func TestSumOfNoughts(t *testing.T) {
	seen := map[uint32]int{}
	for n := range 300 {
		noughts := strings.Repeat("\x00", n)
		sum(t, noughts, model(noughts))
		sum(t, noughts+"123456789", model(noughts+"123456789"))
		sum(t, "123456789"+noughts, model("123456789"+noughts))
		sum(t, "\xff\xff\xff\xff"+noughts, 0)
		if k, ok := seen[Sum(noughts)]; ok {
			t.Errorf("%d noughts and %d have one sum", k, n)
		}
		seen[Sum(noughts)] = n
	}
}

// P3.1: each sample has the sum of the register's steps, and the rest of the division.
func TestSumOfSamples(t *testing.T) {
	for _, s := range samples() {
		sum(t, s, model(s))
		sum(t, s, rest(s))
	}
}

// P3.1 and R1: a long text.
func TestSumOfLongText(t *testing.T) {
	b := make([]byte, maxLong)
	rand.New(rand.NewSource(3)).Read(b)
	sum(t, string(b), rest(string(b)))
}

// P3.2: the sum of a text and the four bytes of its sum is 0; with any one bit of these turned, or with them the lowest first, it is not.
func TestOwnSumBehind(t *testing.T) {
	for _, s := range samples() {
		own := Sum(s)
		sum(t, s+bytesOf(own), 0)
		for bit := range 32 {
			if Sum(s+bytesOf(own^1<<bit)) == 0 {
				t.Errorf("% x: bit %d of its sum turned is not told", s, bit)
			}
		}
	}
	if Sum("123456789\xe7\xe6\x76\x03") == 0 {
		t.Error("the sum, the lowest byte first, behind its text has the sum 0")
	}
}

// P3.2: two texts that are unlike in one bit, or in several within 32, at each place: at the beginning, at the end, and across bytes' borders.
func TestTurnedBitsAreTold(t *testing.T) {
	for _, s := range []string{"\x00", "\xff", "ab", "\x00\x00\x00\x00", "123456789", "a packet of bytes", strings.Repeat("\x00", 9), strings.Repeat("\xff", 9), "123456789\x03\x76\xe6\xe7"} {
		for at := range 8 * len(s) {
			for _, pattern := range patterns() {
				told(t, s, at, pattern)
			}
		}
	}
}

// P3.2: each way to turn bits of two bytes next to one another.
func TestTurnedBytesAreTold(t *testing.T) {
	for _, at := range []int{0, 3, 8, 20, 56} {
		for pattern := uint32(1); pattern < 1<<16; pattern++ {
			told(t, "123456789", at, pattern<<16)
		}
	}
}

// P3.2: texts of four bytes that are unlike have unlike sums, for their bits are all within 32.
func TestShortTextsHaveSumsOfTheirOwn(t *testing.T) {
	seen := map[uint32]uint32{}
	for n := range uint32(1 << 16) {
		word := n * 0x9e3779b1 // an odd number, so that no two are alike
		k := Sum(bytesOf(word))
		if other, ok := seen[k]; ok {
			t.Fatalf("%08x and %08x have one sum", other, word)
		}
		seen[k] = word
	}
}

// P3.2: one bit of each sample.
func TestOneTurnedBitIsTold(t *testing.T) {
	for _, s := range samples() {
		for at := 0; at < 8*len(s); at += 1 + len(s)/50 {
			told(t, s, at, 0x80000000)
		}
	}
}

// P3.2: bits of a long text.
func TestTurnedBitsOfLongTextAreTold(t *testing.T) {
	b := make([]byte, maxLong)
	rand.New(rand.NewSource(4)).Read(b)
	s := string(b)
	sum(t, s+bytesOf(Sum(s)), 0)
	end := 8 * len(s)
	for _, at := range []int{0, 1, 7, 8, end / 2, end - 41, end - 33, end - 32, end - 1} {
		for _, pattern := range []uint32{0x80000000, 0x80000001, 0x84c11db7, 0xffffffff} {
			told(t, s, at, pattern)
		}
	}
}

// R6: what a call answers does not hang on the calls ahead of it.
func TestSameAgain(t *testing.T) {
	var first []uint32
	for _, s := range samples() {
		first = append(first, Sum(s))
	}
	for i, s := range samples() {
		sum(t, s, first[i])
		sum(t, s, first[i])
	}
}

// P3.1 and P3.2: whatever bytes there are.
func FuzzSum(f *testing.F) {
	f.Add("123456789", uint(70), uint32(0x84c11db7))
	f.Add("", uint(0), uint32(1))
	f.Fuzz(func(t *testing.T, s string, place uint, pattern uint32) {
		sum(t, s, model(s))
		whole := s + bytesOf(Sum(s))
		sum(t, whole, 0)
		if pattern != 0 {
			told(t, whole, int(place%uint(8*len(whole))), pattern)
		}
	})
}

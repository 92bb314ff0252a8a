package crc8

import (
	"math/rand"
	"strings"
	"testing"
)

// maxLong is as many bytes as the longest texts of the tests have.
const maxLong = 1 << 16

// rest is what the tests hold Sum against: the row of bits, with eight bits 0 behind it, divided at one go by x^8 + x^7 + x^6 + x^4 + x^2 + 1.
func rest(s string) uint8 {
	divisor := []byte{1, 1, 1, 0, 1, 0, 1, 0, 1}
	row := append(bitsOf(s), make([]byte, 8)...)
	for i := range 8 * len(s) {
		if row[i] == 0 {
			continue
		}
		for k, d := range divisor {
			row[i+k] ^= d
		}
	}
	var n uint8
	for _, b := range row[8*len(s):] {
		n = 2*n + b
	}
	return n
}

// bitsOf tells the bits of s in their row.
func bitsOf(s string) []byte {
	var row []byte
	for i := range len(s) {
		for place := 7; place >= 0; place-- {
			row = append(row, s[i]>>place&1)
		}
	}
	return row
}

// turn turns bits of s: those that are 1 in pattern, whose highest bit stands at the place at of the row. It tells false if one of them stands behind the row.
func turn(s string, at int, pattern uint8) (string, bool) {
	out := []byte(s)
	for k := range 8 {
		if pattern>>(7-k)&1 == 0 {
			continue
		}
		if at+k >= 8*len(s) {
			return "", false
		}
		out[(at+k)/8] ^= 0x80 >> ((at + k) % 8)
	}
	return string(out), true
}

func withSum(s string) string { return s + string([]byte{Sum(s)}) }

// samples tells texts of all lengths up to 40, and of some beyond; of noughts, of ones, and of bytes in no order.
func samples() []string {
	chance := rand.New(rand.NewSource(2))
	var out []string
	long := []int{63, 64, 65, 255, 256, 257, 1000}
	for n := range 41 {
		long = append(long, n)
	}
	for _, n := range long {
		b := make([]byte, n)
		chance.Read(b)
		out = append(out, string(b), strings.Repeat("\x00", n), strings.Repeat("\xff", n))
	}
	return append(out, "a header, nine", "\xc3\x28 no text", "ä €", "\x72\x00\x00\x00\x00\x10\x00\x00\x00")
}

func sum(t *testing.T, s string, want uint8) {
	t.Helper()
	if n := Sum(s); n != want {
		t.Errorf("Sum(% x): %02x, want %02x", s, n, want)
	}
}

// The chapter's examples, one row each.
func TestExamples(t *testing.T) {
	sum(t, "", 0)
	sum(t, "\x00", 0)
	sum(t, "\x01", 0xd5)
	sum(t, "123456789", 0xbc)
}

// P2.1: each byte alone, and each one behind and ahead of another.
func TestSumOfFewBytes(t *testing.T) {
	for b := range 256 {
		one := string([]byte{byte(b)})
		sum(t, one, rest(one))
		sum(t, "\x47"+one, rest("\x47"+one))
		sum(t, one+"\x47", rest(one+"\x47"))
	}
}

// P2.1: the sum starts at 0, so that noughts, and noughts ahead of bytes, change nothing; noughts behind bytes do.
func TestSumOfNoughts(t *testing.T) {
	for n := range 300 {
		noughts := strings.Repeat("\x00", n)
		sum(t, noughts, 0)
		sum(t, noughts+"123456789", 0xbc)
	}
	sum(t, "\x01\x00", rest("\x01\x00"))
	if Sum("\x01\x00") == Sum("\x01") {
		t.Error("a nought behind a byte changes nothing")
	}
}

// P2.1: each sample has the rest of the division.
func TestSumOfSamples(t *testing.T) {
	for _, s := range samples() {
		sum(t, s, rest(s))
	}
}

// P2.1 and R1: a long text.
func TestSumOfLongText(t *testing.T) {
	b := make([]byte, maxLong)
	rand.New(rand.NewSource(3)).Read(b)
	sum(t, string(b), rest(string(b)))
}

// P2.2: the sum of bytes and their sum is 0; any other byte in the sum's place is told.
func TestOwnSumBehind(t *testing.T) {
	for _, s := range samples() {
		own := Sum(s)
		for b := range 256 {
			n := Sum(s + string([]byte{byte(b)}))
			if (n == 0) != (byte(b) == own) {
				t.Errorf("% x with %02x behind it: %02x; its sum is %02x", s, b, n, own)
			}
		}
	}
}

// P2.2: each way to turn bits within eight next to one another, at each place of the row: at the beginning, at the end, and across the border to the sum.
func TestTurnedBitsAreTold(t *testing.T) {
	for _, s := range []string{"", "\x00", "\xff", "123456789", "a header, nine", strings.Repeat("\x00", 9), strings.Repeat("\xff", 9)} {
		whole := withSum(s)
		for at := range 8 * len(whole) {
			for pattern := 1; pattern < 256; pattern++ {
				turned, ok := turn(whole, at, uint8(pattern))
				if ok && Sum(turned) == 0 {
					t.Errorf("% x: %08b turned at bit %d is not told", whole, pattern, at)
				}
			}
		}
	}
}

// P2.2: one bit of each sample.
func TestOneTurnedBitIsTold(t *testing.T) {
	for _, s := range samples() {
		whole := withSum(s)
		for at := range 8 * len(whole) {
			turned, _ := turn(whole, at, 0x80)
			if Sum(turned) == 0 {
				t.Errorf("% x: bit %d turned is not told", whole, at)
			}
		}
	}
}

// P2.2: bits of a long text, far from its sum.
func TestTurnedBitsOfLongTextAreTold(t *testing.T) {
	b := make([]byte, maxLong)
	rand.New(rand.NewSource(4)).Read(b)
	whole := withSum(string(b))
	if Sum(whole) != 0 {
		t.Fatal("the sum of a long text and its sum is not 0")
	}
	end := 8 * len(whole)
	for _, at := range []int{0, 1, 7, end / 2, end - 17, end - 15, end - 9, end - 8} {
		for _, pattern := range []uint8{0x80, 0x81, 0xd5, 0xff} {
			turned, _ := turn(whole, at, pattern)
			if Sum(turned) == 0 {
				t.Errorf("%08b turned at bit %d is not told", pattern, at)
			}
		}
	}
}

// R6: what a call answers does not hang on the calls ahead of it.
func TestSameAgain(t *testing.T) {
	var first []uint8
	for _, s := range samples() {
		first = append(first, Sum(s))
	}
	for i, s := range samples() {
		sum(t, s, first[i])
		sum(t, s, first[i])
	}
}

// P2.1 and P2.2: whatever bytes there are.
func FuzzSum(f *testing.F) {
	f.Add("123456789", uint(70), uint8(0xd5))
	f.Add("", uint(0), uint8(1))
	f.Fuzz(func(t *testing.T, s string, place uint, pattern uint8) {
		sum(t, s, rest(s))
		whole := withSum(s)
		sum(t, whole, 0)
		turned, ok := turn(whole, int(place%uint(8*len(whole))), pattern)
		if ok && pattern != 0 && Sum(turned) == 0 {
			t.Errorf("% x: %08b turned at bit %d is not told", whole, pattern, place)
		}
	})
}

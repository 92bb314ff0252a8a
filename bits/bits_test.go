package bits

import (
	"math"
	"math/rand"
	"strconv"
	"strings"
	"testing"

	"aerial/api"
)

// number is one of a row that is laid and taken.
type number struct {
	n    uint64
	bits int
}

// digits tells the bits of a text as 0 and 1: what the tests hold the package against.
func digits(s string) string {
	var b strings.Builder
	for i := range len(s) {
		d := strconv.FormatUint(uint64(s[i]), 2)
		b.WriteString(strings.Repeat("0", 8-len(d)) + d)
	}
	return b.String()
}

// digitsOf tells the bits of a number as 0 and 1.
func digitsOf(x number) string {
	d := strconv.FormatUint(x.n, 2)
	return strings.Repeat("0", max(0, x.bits-len(d))) + d
}

// textOf tells the bytes of 0 and 1, the last one filled.
func textOf(d string) string {
	d += strings.Repeat("0", (8-len(d)%8)%8)
	var out []byte
	for i := 0; i < len(d); i += 8 {
		n, _ := strconv.ParseUint(d[i:i+8], 2, 8)
		out = append(out, byte(n))
	}
	return string(out)
}

func put(t *testing.T, w *Writer, n uint64, bits int, want api.Errno) {
	t.Helper()
	if e := w.Put(n, bits); e != want {
		t.Errorf("Put(%d, %d): %d, want %d", n, bits, e, want)
	}
}

func putBytes(t *testing.T, w *Writer, s string, want api.Errno) {
	t.Helper()
	if e := w.Bytes(s); e != want {
		t.Errorf("Writer.Bytes(%q): %d, want %d", s, e, want)
	}
}

func text(t *testing.T, w *Writer, want string) {
	t.Helper()
	if s := w.Text(); s != want {
		t.Errorf("Text: % x, want % x", s, want)
	}
}

func take(t *testing.T, r *Reader, bits int, want uint64, wantErr api.Errno) {
	t.Helper()
	if n, e := r.Take(bits); n != want || e != wantErr {
		t.Errorf("Take(%d): %d, %d, want %d, %d", bits, n, e, want, wantErr)
	}
}

func takeBytes(t *testing.T, r *Reader, n int, want string, wantErr api.Errno) {
	t.Helper()
	if s, e := r.Bytes(n); s != want || e != wantErr {
		t.Errorf("Reader.Bytes(%d): %q, %d, want %q, %d", n, s, e, want, wantErr)
	}
}

func left(t *testing.T, r *Reader, want int) {
	t.Helper()
	if n := r.Left(); n != want {
		t.Errorf("Left: %d, want %d", n, want)
	}
}

// The chapter's examples, one row each.
func TestExamples(t *testing.T) {
	var a Writer
	put(t, &a, 5, 3, api.OK)
	put(t, &a, 0, 1, api.OK)
	put(t, &a, 9, 4, api.OK)
	text(t, &a, "\xa9")

	var b Writer
	put(t, &b, 1, 1, api.OK)
	putBytes(t, &b, "a", api.OK)
	text(t, &b, "\xb0\x80")

	r := New("\xa9")
	take(t, r, 3, 5, api.OK)
	take(t, r, 1, 0, api.OK)
	left(t, r, 4)
	take(t, r, 5, 0, api.ErrSpace)
	take(t, r, 4, 9, api.OK)
	left(t, r, 0)

	var c Writer
	put(t, &c, 8, 3, api.ErrOver)
	put(t, &c, 1, 0, api.ErrArg)
	put(t, &c, 1, 65, api.ErrArg)
	take(t, New("\xa9"), 0, 0, api.ErrArg)
}

// P1.1: the least and the greatest number of each width, laid at each place within a byte.
func TestPutEachWidthAtEachPlace(t *testing.T) {
	for bits := 1; bits <= 64; bits++ {
		top := uint64(1) << (bits - 1)
		for _, n := range []uint64{0, 1, top, top - 1, top | (top - 1)} {
			for ahead := range 9 {
				var w Writer
				want := ""
				for range ahead {
					put(t, &w, 1, 1, api.OK)
					want += "1"
				}
				put(t, &w, n, bits, api.OK)
				put(t, &w, 1, 1, api.OK)
				text(t, &w, textOf(want+digitsOf(number{n, bits})+"1"))
			}
		}
	}
}

// P1.1: 2^bits is too much for each width below 64, one less is not.
func TestPutAtTheEdgeOfItsWidth(t *testing.T) {
	for bits := 1; bits < 64; bits++ {
		var w Writer
		over := uint64(1) << bits
		put(t, &w, over, bits, api.ErrOver)
		put(t, &w, over+1, bits, api.ErrOver)
		put(t, &w, math.MaxUint64, bits, api.ErrOver)
		text(t, &w, "")
		put(t, &w, over-1, bits, api.OK)
		text(t, &w, textOf(strings.Repeat("1", bits)))
	}
	var w Writer
	put(t, &w, math.MaxUint64, 64, api.OK)
	text(t, &w, strings.Repeat("\xff", 8))
}

// P1.1, R2: a width that may not be is told ahead of a number that runs over.
func TestPutOfNoWidth(t *testing.T) {
	for _, bits := range []int{0, -1, -8, -64, 65, 66, 128, 256, 1 << 32, math.MaxInt, math.MinInt} {
		for _, n := range []uint64{0, 1, math.MaxUint64} {
			var w Writer
			put(t, &w, n, bits, api.ErrArg)
			text(t, &w, "")
		}
	}
}

// P1.1, R2: a Put that is refused leaves what was laid, and where the next bit goes.
func TestRefusedPutChangesNothing(t *testing.T) {
	for ahead := range 9 {
		var w Writer
		for range ahead {
			put(t, &w, 1, 1, api.OK)
		}
		before := w.Text()
		put(t, &w, 8, 3, api.ErrOver)
		put(t, &w, 1, 0, api.ErrArg)
		put(t, &w, 1, 65, api.ErrArg)
		text(t, &w, before)
		put(t, &w, 1, 2, api.OK)
		text(t, &w, textOf(strings.Repeat("1", ahead)+"01"))
	}
}

// P1.1: bytes behind each place within a byte, and bits behind them.
func TestWriterBytesAtEachPlace(t *testing.T) {
	all := ""
	for i := range 256 {
		all += string([]byte{byte(i)})
	}
	for _, s := range []string{"", "\x00", "\xff", "\x81", "a", "xyz", "\xff\x00\xff", "\xc3\xa9", all} {
		for ahead := range 17 {
			var w Writer
			want := ""
			for i := range ahead {
				put(t, &w, uint64(i%2), 1, api.OK)
				want += strconv.Itoa(i % 2)
			}
			putBytes(t, &w, s, api.OK)
			text(t, &w, textOf(want+digits(s)))
			put(t, &w, 5, 3, api.OK)
			putBytes(t, &w, s, api.OK)
			text(t, &w, textOf(want+digits(s)+"101"+digits(s)))
		}
	}
}

// P1.1: the last byte is filled with bits 0, and Text may be asked in between.
func TestTextFillsTheLastByte(t *testing.T) {
	var w Writer
	for i := range 40 {
		put(t, &w, 1, 1, api.OK)
		want := textOf(strings.Repeat("1", i+1))
		text(t, &w, want)
		text(t, &w, want)
	}
}

// P1.1: a Writer without anything has no bytes.
func TestWriterWithoutAnything(t *testing.T) {
	var w Writer
	text(t, &w, "")
	putBytes(t, &w, "", api.OK)
	text(t, &w, "")
	text(t, new(Writer), "")
}

// P1.1, R3: a Writer that is nil answers ErrNil, whatever else is wrong.
func TestWriterThatIsNil(t *testing.T) {
	var w *Writer
	put(t, w, 1, 1, api.ErrNil)
	put(t, w, 1, 0, api.ErrNil)
	put(t, w, 2, 1, api.ErrNil)
	putBytes(t, w, "a", api.ErrNil)
	putBytes(t, w, "", api.ErrNil)
	text(t, w, "")
}

// P1.2: each width is taken from each place within a byte.
func TestTakeEachWidthFromEachPlace(t *testing.T) {
	const s = "\xa9\x00\xff\x5a\x01\x80\x7e\xc3\x96\x0f"
	d := digits(s)
	for ahead := range 9 {
		for bits := 1; bits <= 64; bits++ {
			r := New(s)
			for i := range ahead {
				take(t, r, 1, uint64(d[i]-'0'), api.OK)
			}
			want, _ := strconv.ParseUint(d[ahead:ahead+bits], 2, 64)
			take(t, r, bits, want, api.OK)
			left(t, r, len(d)-ahead-bits)
		}
	}
}

// P1.2: as many bits as are left are taken, one more is not, and the reader stays.
func TestTakeOfTooFewBits(t *testing.T) {
	const s = "\xff\x12\x34\x56\x78\x9a\xbc\xde\xf0"
	d := digits(s)
	for have := 0; have <= 64; have++ {
		r := New(s)
		for range len(d) - have {
			if _, e := r.Take(1); e != api.OK {
				t.Fatal(e)
			}
		}
		for bits := have + 1; bits <= 64; bits++ {
			take(t, r, bits, 0, api.ErrSpace)
		}
		left(t, r, have)
		if have == 0 {
			continue
		}
		want, _ := strconv.ParseUint(d[len(d)-have:], 2, 64)
		take(t, r, have, want, api.OK)
		left(t, r, 0)
	}
}

// P1.2, R2: a width that may not be is told ahead of too few bits, and the reader stays.
func TestTakeOfNoWidth(t *testing.T) {
	for _, bits := range []int{0, -1, -8, -64, 65, 66, 128, 1 << 32, math.MaxInt, math.MinInt} {
		take(t, New(""), bits, 0, api.ErrArg)
		r := New(strings.Repeat("\xa9", 20))
		take(t, r, 3, 5, api.OK)
		take(t, r, bits, 0, api.ErrArg)
		left(t, r, 157)
		take(t, r, 5, 9, api.OK)
	}
}

// P1.2: bytes are taken from each place within a byte, with what stands behind them.
func TestReaderBytesFromEachPlace(t *testing.T) {
	const s = "\xa9\x00\xff\x5a\x01\x80\x7e"
	d := digits(s)
	for ahead := 0; ahead <= len(d); ahead++ {
		for n := 0; ahead+8*n <= len(d); n++ {
			r := New(s)
			for range ahead {
				r.Take(1)
			}
			takeBytes(t, r, n, textOf(d[ahead:ahead+8*n]), api.OK)
			left(t, r, len(d)-ahead-8*n)
			if r.Left() > 0 {
				take(t, r, 1, uint64(d[ahead+8*n]-'0'), api.OK)
			}
		}
	}
}

// P1.2: one byte more than is left is refused, as are numbers of bytes whose bits run over, and the reader stays.
func TestReaderBytesOfTooFewBits(t *testing.T) {
	const s = "\xa9\x5a\xff"
	for ahead := 0; ahead <= 24; ahead++ {
		r := New(s)
		for range ahead {
			r.Take(1)
		}
		have := 24 - ahead
		for _, n := range []int{have/8 + 1, have/8 + 2, 4, 1 << 31, 1 << 60, 1 << 61, 1<<61 + 1, 1 << 62, math.MaxInt} {
			takeBytes(t, r, n, "", api.ErrSpace)
		}
		left(t, r, have)
		takeBytes(t, r, have/8, textOf(digits(s)[ahead:ahead+have/8*8]), api.OK)
	}
}

// P1.2: a number of bytes below 0 is refused ahead of all else; none are always there.
func TestReaderBytesBelowNone(t *testing.T) {
	for _, n := range []int{-1, -8, math.MinInt / 8, math.MinInt + 1, math.MinInt} {
		takeBytes(t, New(""), n, "", api.ErrArg)
		r := New("\xa9")
		take(t, r, 3, 5, api.OK)
		takeBytes(t, r, n, "", api.ErrArg)
		left(t, r, 5)
	}
	r := New("\xa9")
	takeBytes(t, r, 0, "", api.OK)
	left(t, r, 8)
	takeBytes(t, r, 1, "\xa9", api.OK)
	takeBytes(t, r, 0, "", api.OK)
	left(t, r, 0)
}

// P1.2: New stands ahead of the first bit; readers of one text do not move each other.
func TestNew(t *testing.T) {
	r := New("")
	if r == nil {
		t.Fatal("New answers nil")
	}
	left(t, r, 0)
	take(t, r, 1, 0, api.ErrSpace)
	takeBytes(t, r, 1, "", api.ErrSpace)

	a, b := New("\x80\x01"), New("\x80\x01")
	take(t, a, 1, 1, api.OK)
	left(t, a, 15)
	left(t, b, 16)
	take(t, b, 16, 0x8001, api.OK)
}

// P1.2, R3: a Reader that is nil answers ErrNil, and 0, whatever else is wrong.
func TestReaderThatIsNil(t *testing.T) {
	var r *Reader
	take(t, r, 1, 0, api.ErrNil)
	take(t, r, 0, 0, api.ErrNil)
	take(t, r, 65, 0, api.ErrNil)
	takeBytes(t, r, 1, "", api.ErrNil)
	takeBytes(t, r, 0, "", api.ErrNil)
	takeBytes(t, r, -1, "", api.ErrNil)
	left(t, r, 0)
}

// R1, R3: a Reader that New did not make has no bits.
func TestReaderWithoutAnything(t *testing.T) {
	var r Reader
	left(t, &r, 0)
	take(t, &r, 1, 0, api.ErrSpace)
	takeBytes(t, &r, 1, "", api.ErrSpace)
	takeBytes(t, &r, 0, "", api.OK)
}

// row is a row of numbers, the same one for the same seed.
func row(seed int64, count int) []number {
	rnd := rand.New(rand.NewSource(seed))
	var out []number
	for range count {
		bits := 1 + rnd.Intn(64)
		out = append(out, number{rnd.Uint64() >> (64 - bits), bits})
	}
	return out
}

// P1.3: what was laid is taken again, in the same widths, with bytes between.
func TestLaidIsTakenAgain(t *testing.T) {
	for seed := range int64(50) {
		all := row(seed, 40)
		var w Writer
		want := ""
		for i, x := range all {
			put(t, &w, x.n, x.bits, api.OK)
			putBytes(t, &w, "\x00\xff\x81"[:i%4], api.OK)
			want += digitsOf(x) + digits("\x00\xff\x81"[:i%4])
		}
		text(t, &w, textOf(want))
		r := New(w.Text())
		for i, x := range all {
			take(t, r, x.bits, x.n, api.OK)
			takeBytes(t, r, i%4, "\x00\xff\x81"[:i%4], api.OK)
		}
		left(t, r, (8-len(want)%8)%8)
		if n := r.Left(); n > 0 {
			take(t, r, n, 0, api.OK)
		}
	}
}

// layInPieces lays the bits of 0 and 1 in pieces of widths that hang on the seed: numbers, and bytes where they go in.
func layInPieces(t *testing.T, d string, seed int64) string {
	t.Helper()
	rnd := rand.New(rand.NewSource(seed))
	var w Writer
	for len(d) > 0 {
		bits := min(1+rnd.Intn(64), len(d))
		if n := bits / 8 * 8; n > 0 && rnd.Intn(3) == 0 {
			putBytes(t, &w, textOf(d[:n]), api.OK)
			d = d[n:]
			continue
		}
		n, _ := strconv.ParseUint(d[:bits], 2, 64)
		put(t, &w, n, bits, api.OK)
		d = d[bits:]
	}
	return w.Text()
}

// P1.3: how bits are cut into pieces does not matter for what stands there, nor for what is taken.
func TestPiecesDoNotMatter(t *testing.T) {
	for count := range 30 {
		d := ""
		for _, x := range row(int64(count), count) {
			d += digitsOf(x)
		}
		for seed := range int64(10) {
			if s := layInPieces(t, d, seed); s != textOf(d) {
				t.Errorf("%d bits, seed %d: % x, want % x", len(d), seed, s, textOf(d))
			}
		}
		one, wide := New(textOf(d)), New(textOf(d))
		for one.Left() > 0 {
			bits := min(one.Left(), 64)
			var n uint64
			for range bits {
				bit, _ := one.Take(1)
				n = n<<1 | bit
			}
			take(t, wide, bits, n, api.OK)
		}
	}
}

// R5: what Text answered stays as it was when more is laid; readers of it too.
func TestTextIsNew(t *testing.T) {
	var w Writer
	put(t, &w, 1, 1, api.OK)
	before := w.Text()
	r := New(before)
	put(t, &w, 127, 7, api.OK)
	putBytes(t, &w, "abc", api.OK)
	if before != "\x80" {
		t.Errorf("% x", before)
	}
	takeBytes(t, r, 1, "\x80", api.OK)
}

// R6: the same calls answer the same, and Writers do not move each other.
func TestSameCallsAnswerTheSame(t *testing.T) {
	var a, b Writer
	for _, x := range row(7, 100) {
		put(t, &a, x.n, x.bits, api.OK)
		put(t, &b, x.n, x.bits, api.OK)
		if a.Text() != b.Text() {
			t.Fatalf("% x, % x", a.Text(), b.Text())
		}
	}
}

// R1: any calls in any order end, and answer as a text of 0 and 1 says.
func FuzzCalls(f *testing.F) {
	f.Add("abc", "\x01\x40\x03", 3)
	f.Add("", "", 0)
	f.Fuzz(func(t *testing.T, s, widths string, n int) {
		r, d := New(s), digits(s)
		for i := range len(widths) {
			bits := int(int8(widths[i]))
			switch {
			case bits < 1 || bits > 64:
				take(t, r, bits, 0, api.ErrArg)
			case bits > len(d):
				take(t, r, bits, 0, api.ErrSpace)
			default:
				want, _ := strconv.ParseUint(d[:bits], 2, 64)
				take(t, r, bits, want, api.OK)
				d = d[bits:]
			}
			left(t, r, len(d))
		}
		switch {
		case n < 0:
			takeBytes(t, r, n, "", api.ErrArg)
		case n > len(d)/8:
			takeBytes(t, r, n, "", api.ErrSpace)
		default:
			takeBytes(t, r, n, textOf(d[:8*n]), api.OK)
		}
	})
}

package cut

import (
	"fmt"
	"math"
	"math/rand"
	"strings"
	"testing"

	"aerial/api"
	"aerial/gse"
	"aerial/pdu"
)

// Limits, as the chapter tells them.
const (
	greatestPacket = 65519
	greatestPiece  = 4097
)

var (
	abc    = api.Label{Kind: api.LabelThree, Bytes: "abc"}
	zeros  = api.Label{Kind: api.LabelThree, Bytes: "\x00\x00\x00"}
	abcdef = api.Label{Kind: api.LabelSix, Bytes: "abcdef"}
	ones   = api.Label{Kind: api.LabelSix, Bytes: "\xff\xff\xff\xff\xff\xff"}
	all    = api.Label{Kind: api.LabelAll}
	same   = api.Label{Kind: api.LabelSame}
)

// labels tells labels of each kind that may be.
func labels() []api.Label { return []api.Label{abc, zeros, abcdef, ones, all, same} }

// wrongLabels tells labels that may not be: of kinds below and above, and with bytes that are not as many as the kind's.
func wrongLabels() []api.Label {
	var out []api.Label
	for _, kind := range []int{-1, -2, -4, 4, 5, 9, 256, 1 << 32, 1<<32 + 3, math.MinInt, math.MaxInt} {
		for _, bytes := range []string{"", "a", "abc", "abcdef"} {
			out = append(out, api.Label{Kind: kind, Bytes: bytes})
		}
	}
	for kind, few := range [][]string{{"", "abc", "abcde", "abcdefg"}, {"", "ab", "abcd", "abcdef"}, {"a", "abc", "abcdef"}, {"a", "abc", "abcdef"}} {
		for _, bytes := range few {
			out = append(out, api.Label{Kind: kind, Bytes: bytes})
		}
	}
	return append(out, api.Label{Kind: api.LabelSix, Bytes: strings.Repeat("a", 5000)})
}

// laidAs tells in which ways a label may be laid: as it is, and as the same one.
func laidAs(l api.Label) []api.Label {
	if l == same {
		return []api.Label{same}
	}
	return []api.Label{l, same}
}

// wrongNumbers tells numbers that are below 0, or above a greatest one, some of which look right in few bits.
func wrongNumbers(greatest int) []int {
	return []int{
		-1, -2, -256, -65536, -1 << 31, -1 << 32, math.MinInt + 1, math.MinInt,
		greatest + 1, greatest + 2, 2*greatest + 2, 1 << 31, 1 << 32, 1<<32 + greatest, math.MaxInt - 1, math.MaxInt,
	}
}

// farSpaces tells the least and the greatest spaces, and those around 0.
func farSpaces() []int {
	return []int{
		math.MinInt, math.MinInt + 1, math.MinInt + 4, math.MinInt + 13, math.MinInt + 70000, math.MinInt32, -70000, -4097, -14, -1, 0, 1, 2, 3,
		math.MaxInt32, math.MaxInt32 + 1, math.MaxInt - 13, math.MaxInt - 4, math.MaxInt - 1, math.MaxInt,
	}
}

// bytes tells n bytes, no two neighbouring ones of which are alike.
func bytes(n int) string {
	out := make([]byte, n)
	for i := range out {
		out[i] = byte(i%251) ^ byte(i/251)
	}
	return string(out)
}

// modelSizes is how many bytes a label of a kind has.
var modelSizes = map[int]int{0: 6, 1: 3, 2: 0, 3: 0}

func modelLabel(l api.Label) bool {
	size, is := modelSizes[l.Kind]
	return is && len(l.Bytes) == size
}

// modelMay is what the chapter's words call what may be.
func modelMay(c Cut) bool {
	return c.Type >= 0 && c.Type <= 65535 && modelLabel(c.Label) && len(c.Data) >= 1 && len(c.Data) <= greatestPacket &&
		c.At >= 0 && c.At < len(c.Data) && c.Id >= 0 && c.Id <= 255
}

// two tells a number in two bytes.
func two(n int) string { return string([]byte{byte(n / 256), byte(n % 256)}) }

// modelSum is a packet's sum, bit by bit.
func modelSum(typ int, l api.Label, data string) string {
	register := uint32(0xffffffff)
	for _, b := range []byte(two(2+modelSizes[l.Kind]+len(data)) + two(typ) + l.Bytes + data) {
		for place := 7; place >= 0; place-- {
			came := register>>31 != uint32(b)>>place&1
			register <<= 1
			if came {
				register ^= 0x04c11db7
			}
		}
	}
	return two(int(register>>16)) + two(int(register&0xffff))
}

// goesIn tells whether a piece of so many bytes goes into a space.
func goesIn(size, space int) bool { return size <= space && size <= greatestPiece }

// modelMost tells the greatest number of bytes, up to most, with which a piece goes in that takes beside more than them; 0, if there is none.
func modelMost(beside, most, space int) int {
	for n := min(most, greatestPiece); n > 0; n-- {
		if goesIn(beside+n, space) {
			return n
		}
	}
	return 0
}

// modelNext is P11.1, sentence by sentence.
func modelNext(c Cut, l api.Label, space int, whole bool) (api.Piece, Cut, api.Errno) {
	if !modelMay(c) || !modelLabel(l) || c.At == 0 && l != c.Label && l != same {
		return api.Piece{}, c, 2
	}
	if c.At == 0 {
		return modelStart(c, l, space, whole)
	}
	left := c.Data[c.At:]
	if goesIn(7+len(left), space) {
		return api.Piece{End: true, Id: c.Id, Data: left, Sum: modelSum(c.Type, c.Label, c.Data)}, modelAt(c, len(c.Data)), 0
	}
	if n := modelMost(3, len(left)-1, space); n > 0 {
		return api.Piece{Id: c.Id, Data: left[:n]}, modelAt(c, c.At+n), 0
	}
	return api.Piece{}, c, 12
}

func modelStart(c Cut, l api.Label, space int, whole bool) (api.Piece, Cut, api.Errno) {
	size, all := modelSizes[l.Kind], len(c.Data)
	if goesIn(4+size+all, space) {
		return api.Piece{Start: true, End: true, Type: c.Type, Label: l, Data: c.Data}, modelAt(c, all), 0
	}
	n := modelMost(7+size, all-1, space)
	if whole || n == 0 {
		return api.Piece{}, c, 12
	}
	d := modelAt(c, n)
	d.Label = l
	return api.Piece{Start: true, Id: c.Id, Total: 2 + size + all, Type: c.Type, Label: l, Data: c.Data[:n]}, d, 0
}

func modelAt(c Cut, at int) Cut {
	return Cut{Type: c.Type, Label: c.Label, Data: c.Data, At: at, Id: c.Id}
}

// told tells what is cut in few signs, for a test's report.
func told(c Cut) string {
	return fmt.Sprintf("type %d, label %d %.16x, data %.16x (%d bytes), at %d, id %d", c.Type, c.Label.Kind, c.Label.Bytes, c.Data, len(c.Data), c.At, c.Id)
}

// toldPiece tells a piece, likewise.
func toldPiece(p api.Piece) string {
	return fmt.Sprintf("start %v, end %v, id %d, total %d, type %d, label %d %.16x, data %.16x (%d bytes), sum %x",
		p.Start, p.End, p.Id, p.Total, p.Type, p.Label.Kind, p.Label.Bytes, p.Data, len(p.Data), p.Sum)
}

// answers asks Next.
func answers(t *testing.T, c Cut, l api.Label, space int, whole bool, p api.Piece, d Cut, e api.Errno) {
	t.Helper()
	gotPiece, gotCut, is := Next(c, l, space, whole)
	if gotPiece != p || gotCut != d || is != e {
		t.Errorf("Next(%s; %d %.16x, %d, %v):\n got %s\n     %s; %d\nwant %s\n     %s; %d",
			told(c), l.Kind, l.Bytes, space, whole, toldPiece(gotPiece), told(gotCut), is, toldPiece(p), told(d), e)
	}
}

// asModel asks for what the model answers.
func asModel(t *testing.T, c Cut, l api.Label, space int, whole bool) {
	t.Helper()
	p, d, e := modelNext(c, l, space, whole)
	answers(t, c, l, space, whole, p, d, e)
}

// refuses asks for an error, with which the piece is zero and what is cut is as it was.
func refuses(t *testing.T, c Cut, l api.Label, space int, whole bool, e api.Errno) {
	t.Helper()
	answers(t, c, l, space, whole, api.Piece{}, c, e)
}

// mayNot asks for ErrArg, in spaces in which it would go in and in which it would not, whole or not.
func mayNot(t *testing.T, c Cut, l api.Label) {
	t.Helper()
	for _, space := range []int{math.MinInt, -1, 0, 5, 14, 20, 100, greatestPiece, math.MaxInt} {
		refuses(t, c, l, space, false, api.ErrArg)
		refuses(t, c, l, space, true, api.ErrArg)
	}
}

// wholeIn asks for a whole piece.
func wholeIn(t *testing.T, c Cut, l api.Label, space int, whole bool) {
	t.Helper()
	d := c
	d.At = len(c.Data)
	answers(t, c, l, space, whole, api.Piece{Start: true, End: true, Type: c.Type, Label: l, Data: c.Data}, d, api.OK)
}

// firstIn asks for the first piece, with n bytes.
func firstIn(t *testing.T, c Cut, l api.Label, space, n int) {
	t.Helper()
	d := c
	d.At, d.Label = n, l
	p := api.Piece{Start: true, Id: c.Id, Total: 2 + len(l.Bytes) + len(c.Data), Type: c.Type, Label: l, Data: c.Data[:n]}
	answers(t, c, l, space, false, p, d, api.OK)
}

// betweenIn asks for one between, with n bytes.
func betweenIn(t *testing.T, c Cut, l api.Label, space, n int) {
	t.Helper()
	d := c
	d.At += n
	p := api.Piece{Id: c.Id, Data: c.Data[c.At : c.At+n]}
	answers(t, c, l, space, false, p, d, api.OK)
	answers(t, c, l, space, true, p, d, api.OK)
}

// lastIn asks for the last one.
func lastIn(t *testing.T, c Cut, l api.Label, space int) {
	t.Helper()
	d := c
	d.At = len(c.Data)
	p := api.Piece{End: true, Id: c.Id, Data: c.Data[c.At:], Sum: modelSum(c.Type, c.Label, c.Data)}
	answers(t, c, l, space, false, p, d, api.OK)
	answers(t, c, l, space, true, p, d, api.OK)
}

// of tells a packet of n bytes that may be cut.
func of(l api.Label, n, at int) Cut {
	return Cut{Type: 2049, Label: l, Data: bytes(n), At: at, Id: 7}
}

// The chapter's examples.
func TestExamples(t *testing.T) {
	c := of(abcdef, 10, 0)
	wholeIn(t, c, abcdef, 20, false)
	wholeIn(t, c, abcdef, 20, true)
	firstIn(t, c, abcdef, 19, 6)
	refuses(t, c, abcdef, 19, true, api.ErrSpace)
	c.At = 6
	lastIn(t, c, abcdef, 11)
	betweenIn(t, c, abcdef, 10, 3)
	refuses(t, c, abcdef, 3, false, api.ErrSpace)
	c.At = 9
	refuses(t, c, abcdef, 7, false, api.ErrSpace)
}

// P11.1: what is cut may not be: its type.
func TestWrongTypes(t *testing.T) {
	for _, typ := range wrongNumbers(65535) {
		for _, at := range []int{0, 6} {
			c := of(abc, 10, at)
			c.Type = typ
			mayNot(t, c, abc)
			mayNot(t, c, same)
		}
	}
}

// P11.1: what is cut may not be: its id, of pieces that say it and of such that do not.
func TestWrongIds(t *testing.T) {
	for _, id := range wrongNumbers(255) {
		for _, at := range []int{0, 6} {
			c := of(abc, 10, at)
			c.Id = id
			mayNot(t, c, abc)
		}
	}
}

// P11.1: what is cut may not be: how many bytes its data has.
func TestWrongData(t *testing.T) {
	mayNot(t, of(abc, 0, 0), abc)
	mayNot(t, of(abc, 0, -1), abc)
	mayNot(t, of(abc, 0, 1), abc)
	for _, n := range []int{greatestPacket + 1, greatestPacket + 2, 65535, 65536, 65537, 1 << 17} {
		mayNot(t, of(abc, n, 0), abc)
		mayNot(t, of(abc, n, 6), abc)
		mayNot(t, of(abc, n, n-1), abc)
	}
}

// P11.1: what is cut may not be: how many of its bytes are gone.
func TestWrongAts(t *testing.T) {
	for _, n := range []int{1, 2, 10, greatestPacket} {
		for _, at := range wrongNumbers(n - 1) {
			mayNot(t, of(abc, n, at), abc)
			mayNot(t, of(abc, n, at), same)
		}
	}
}

// P11.1: what is cut may not be: its label, be it laid as it is, as the same, or as another one.
func TestWrongLabelsOfCuts(t *testing.T) {
	for _, x := range wrongLabels() {
		for _, at := range []int{0, 6} {
			for _, l := range []api.Label{x, same, abc, abcdef, all} {
				mayNot(t, of(x, 10, at), l)
			}
		}
	}
}

// P11.1: the label as which it is laid may not be, whether it is laid or not.
func TestWrongLabels(t *testing.T) {
	for _, x := range wrongLabels() {
		for _, l := range labels() {
			mayNot(t, of(l, 10, 0), x)
			mayNot(t, of(l, 10, 6), x)
		}
	}
}

// P11.1: another label than its own may not be laid; behind the start there is none to be laid.
func TestOtherLabels(t *testing.T) {
	for _, own := range labels() {
		for _, l := range labels() {
			if l != own && l != same {
				mayNot(t, of(own, 10, 0), l)
			} else {
				wholeIn(t, of(own, 10, 0), l, 20, true)
			}
			lastIn(t, of(own, 10, 6), l, 11)
			betweenIn(t, of(own, 10, 6), l, 10, 3)
			refuses(t, of(own, 10, 6), l, 3, false, api.ErrSpace)
		}
	}
	mayNot(t, of(abcdef, 10, 0), api.Label{Kind: api.LabelSix, Bytes: "abcdeF"})
	mayNot(t, of(abc, 10, 0), api.Label{Kind: api.LabelThree, Bytes: "Abc"})
}

// P11.1: what is cut may be, at its edges.
func TestEdgesOfCuts(t *testing.T) {
	for _, typ := range []int{0, 1, 255, 256, 2048, 65534, 65535} {
		for _, id := range []int{0, 1, 127, 128, 254, 255} {
			c := Cut{Type: typ, Label: abc, Data: bytes(10), Id: id}
			wholeIn(t, c, abc, 17, false)
			firstIn(t, c, abc, 16, 6)
			c.At = 6
			lastIn(t, c, abc, 11)
			betweenIn(t, c, abc, 10, 3)
		}
	}
	for _, l := range labels() {
		wholeIn(t, of(l, 1, 0), l, 100, true)
		firstIn(t, of(l, greatestPacket, 0), l, 100, 93-len(l.Bytes))
		betweenIn(t, of(l, greatestPacket, 6), l, 100, 97)
		lastIn(t, of(l, greatestPacket, greatestPacket-1), l, 8)
		lastIn(t, of(l, greatestPacket, greatestPacket-93), l, 100)
	}
}

// P11.1: spaces around what a whole piece takes, of each label and each way to lay it.
func TestWholePieces(t *testing.T) {
	for _, own := range labels() {
		for _, l := range laidAs(own) {
			for _, n := range []int{1, 2, 3, 4, 5, 10, 255, 256, 4000} {
				c, takes := of(own, n, 0), 4+len(l.Bytes)+n
				for _, more := range []int{0, 1, 2, 3, 4, 20, 5000} {
					wholeIn(t, c, l, takes+more, false)
					wholeIn(t, c, l, takes+more, true)
				}
				refuses(t, c, l, takes-1, true, api.ErrSpace)
				if n > 4 {
					firstIn(t, c, l, takes-1, n-4)
				} else {
					refuses(t, c, l, takes-1, false, api.ErrSpace)
				}
			}
		}
	}
}

// P11.1: spaces around what the first piece takes with one byte, and up to where all goes in.
func TestFirstPieces(t *testing.T) {
	for _, own := range labels() {
		for _, l := range laidAs(own) {
			for _, n := range []int{5, 6, 10, 300} {
				c, beside := of(own, n, 0), 7+len(l.Bytes)
				for space := range beside + 1 {
					refuses(t, c, l, space, false, api.ErrSpace)
				}
				for k := 1; beside+k < 4+len(l.Bytes)+n; k++ {
					firstIn(t, c, l, beside+k, k)
					refuses(t, c, l, beside+k, true, api.ErrSpace)
				}
			}
		}
	}
}

// P11.1: spaces around what the last piece takes, and one between with one byte.
func TestLaterPieces(t *testing.T) {
	for _, l := range labels() {
		for left := 1; left < 40; left++ {
			c := of(l, 50, 50-left)
			for space := range 60 {
				switch {
				case space >= 7+left:
					lastIn(t, c, l, space)
				case space >= 4 && left > 1:
					betweenIn(t, c, l, space, min(space-3, left-1))
				default:
					refuses(t, c, l, space, false, api.ErrSpace)
					refuses(t, c, l, space, true, api.ErrSpace)
				}
			}
		}
	}
}

// P11.1: the last byte is never sent by one between, however much would go in.
func TestLastByteIsLeft(t *testing.T) {
	for left := 2; left < 10; left++ {
		c := of(abc, 20, 20-left)
		for _, space := range []int{left + 2, left + 3, left + 4, left + 5, left + 6} {
			betweenIn(t, c, abc, space, left-1)
		}
	}
	for space := range 8 {
		refuses(t, of(abc, 20, 19), abc, space, false, api.ErrSpace)
	}
}

// P11.1: the least and the greatest numbers there are, as spaces.
func TestFarSpaces(t *testing.T) {
	for _, space := range farSpaces() {
		for _, own := range labels() {
			for _, l := range laidAs(own) {
				for _, n := range []int{1, 10, 4087, 5000, greatestPacket} {
					for _, at := range []int{0, 1, n / 2, n - 1} {
						c := of(own, n, at)
						c.At = min(c.At, n-1)
						asModel(t, c, l, space, false)
						asModel(t, c, l, space, true)
					}
				}
			}
		}
	}
	refuses(t, of(abc, 10, 0), abc, math.MinInt, false, api.ErrSpace)
	refuses(t, of(abc, 10, 6), abc, math.MinInt, false, api.ErrSpace)
	wholeIn(t, of(abc, 10, 0), abc, math.MaxInt, true)
	lastIn(t, of(abc, 10, 6), abc, math.MaxInt)
}

// P11.1: no piece takes more than 4097 bytes, how much space there ever is.
func TestGreatestPieces(t *testing.T) {
	for _, own := range labels() {
		for _, l := range laidAs(own) {
			size := len(l.Bytes)
			for _, space := range []int{4095, 4096, 4097, 4098, 4099, 5000, 65535, math.MaxInt} {
				most := min(space, greatestPiece)
				wholeIn(t, of(own, most-4-size, 0), l, space, false)
				wholeIn(t, of(own, most-4-size, 0), l, space, true)
				firstIn(t, of(own, most-3-size, 0), l, space, most-7-size)
				refuses(t, of(own, most-3-size, 0), l, space, true, api.ErrSpace)
				firstIn(t, of(own, greatestPacket, 0), l, space, most-7-size)
				refuses(t, of(own, greatestPacket, 0), l, space, true, api.ErrSpace)
				betweenIn(t, of(own, greatestPacket, 1), l, space, most-3)
				lastIn(t, of(own, greatestPacket, greatestPacket-most+7), l, space)
				betweenIn(t, of(own, greatestPacket, greatestPacket-most+6), l, space, most-7)
			}
		}
	}
}

// P11.1: behind the first piece 'whole' is nothing.
func TestWholeIsNothingBehindTheFirstPiece(t *testing.T) {
	for at := 1; at < 30; at++ {
		for space := range 50 {
			c := of(abcdef, 30, at)
			p, d, e := Next(c, abcdef, space, false)
			answers(t, c, abcdef, space, true, p, d, e)
		}
	}
	lastIn(t, of(abcdef, 30, 1), abcdef, 36)
	betweenIn(t, of(abcdef, 30, 1), abcdef, 4, 1)
}

// P11.1: the label as which the first piece laid it is the packet's from then on, in its total and its sum.
func TestLabelBehindTheFirstPiece(t *testing.T) {
	c := Cut{Type: 2048, Label: abcdef, Data: "hello", Id: 3}
	p, d, e := Next(c, abcdef, 14, false)
	if want := (Cut{Type: 2048, Label: abcdef, Data: "hello", At: 1, Id: 3}); p.Total != 13 || p.Label != abcdef || d != want || e != api.OK {
		t.Errorf("as it is: %s; %s; %d", toldPiece(p), told(d), e)
	}
	// The sum was reckoned elsewhere.
	answers(t, d, same, 11, false, api.Piece{End: true, Id: 3, Data: "ello", Sum: "\x54\x98\x17\x33"}, modelAt(d, 5), api.OK)

	p, d, e = Next(c, same, 8, false)
	if want := (Cut{Type: 2048, Label: same, Data: "hello", At: 1, Id: 3}); p.Total != 7 || p.Label != same || d != want || e != api.OK {
		t.Errorf("as the same: %s; %s; %d", toldPiece(p), told(d), e)
	}
	_, d, e = Next(d, abcdef, 5, false)
	if want := (Cut{Type: 2048, Label: same, Data: "hello", At: 3, Id: 3}); d != want || e != api.OK {
		t.Errorf("behind one between: %s; %d", told(d), e)
	}
	sum := modelSum(2048, same, "hello")
	if sum == modelSum(2048, abcdef, "hello") {
		t.Fatal("the sums of both labels are alike")
	}
	answers(t, d, abcdef, 9, false, api.Piece{End: true, Id: 3, Data: "lo", Sum: sum}, modelAt(d, 5), api.OK)
}

// P11.1: it is just the first piece that changes the label of what is cut.
func TestLabelBehindWholePieces(t *testing.T) {
	for _, own := range labels() {
		for _, l := range laidAs(own) {
			if _, d, e := Next(of(own, 10, 0), l, 20, false); d != of(own, 10, 10) || e != api.OK {
				t.Errorf("%x laid as %d %x: %s; %d", own.Bytes, l.Kind, l.Bytes, told(d), e)
			}
			if _, d, e := Next(of(own, 10, 0), l, 7, false); d != of(own, 10, 0) || e != api.ErrSpace {
				t.Errorf("%x laid as %d %x: %s; %d", own.Bytes, l.Kind, l.Bytes, told(d), e)
			}
		}
	}
}

// P11.1: nothing is left to be cut behind a whole piece, nor behind the last one.
func TestNothingIsLeft(t *testing.T) {
	_, whole, _ := Next(of(abc, 10, 0), abc, 100, false)
	_, last, _ := Next(of(abc, 10, 6), abc, 100, false)
	for _, c := range []Cut{whole, last} {
		mayNot(t, c, abc)
		mayNot(t, c, same)
	}
}

// R2: of several wrongs the one that stands first in the promise is told, with what is cut as it was.
func TestSeveralWrongs(t *testing.T) {
	wrong := api.Label{Kind: api.LabelSix, Bytes: "abc"}
	for _, c := range []Cut{
		{Type: -1, Label: abc, Data: "0123456789"},
		{Type: 65536, Label: wrong, Data: "", At: -1, Id: 256},
		{Type: 65536, Label: wrong, Data: bytes(greatestPacket + 1), At: greatestPacket + 1, Id: -1},
		{Label: abc, Data: "0123456789", At: 10},
		{Label: wrong, Data: "0123456789"},
		{},
	} {
		for _, l := range []api.Label{abc, abcdef, same, wrong, {Kind: 9}} {
			mayNot(t, c, l)
		}
	}
	mayNot(t, of(abc, 10, 0), abcdef)
	mayNot(t, of(abc, 10, 0), wrong)
	mayNot(t, of(abc, 10, 6), wrong)
}

// P11.1: all there is, within few bytes.
func TestAllThatIsSmall(t *testing.T) {
	for _, own := range []api.Label{abc, abcdef, all, same} {
		for _, l := range []api.Label{abc, abcdef, all, same} {
			for n := range 16 {
				for at := -1; at <= n+1; at++ {
					for space := -2; space < 34; space++ {
						asModel(t, of(own, n, at), l, space, false)
						asModel(t, of(own, n, at), l, space, true)
					}
				}
			}
		}
	}
}

// P11.1: any packet, with spaces at which another kind of piece begins.
func TestAnyPackets(t *testing.T) {
	chance := rand.New(rand.NewSource(111))
	for range 3000 {
		l := labels()[chance.Intn(len(labels()))]
		n := 1 + chance.Intn([]int{1, 20, 300, 5000, greatestPacket}[chance.Intn(5)])
		c := Cut{Type: chance.Intn(65536), Label: l, Data: bytes(n), Id: chance.Intn(256)}
		if chance.Intn(2) == 0 {
			c.At = chance.Intn(n)
		}
		for _, edge := range []int{0, 4 + len(l.Bytes) + n, 4 + n, 8 + len(l.Bytes), 8, 4, 7 + n - c.At, greatestPiece, chance.Intn(greatestPiece)} {
			asModel(t, c, laidAs(l)[chance.Intn(len(laidAs(l)))], edge+chance.Intn(3)-1, chance.Intn(2) == 0)
		}
	}
}

// goesAsPiece asks that a piece has bytes, no more than the space, of which it comes back.
func goesAsPiece(t *testing.T, p api.Piece, space int) string {
	t.Helper()
	s, e := gse.Encode(p)
	if e != api.OK || len(s) > space || len(s) > greatestPiece {
		t.Fatalf("%s: %d bytes of %d, %d", toldPiece(p), len(s), space, e)
	}
	if q, n, e := gse.Decode(s); q != p || n != len(s) || e != api.OK {
		t.Fatalf("%s comes back as %s, %d", toldPiece(p), toldPiece(q), e)
	}
	return s
}

// isInPlace asks that just the first piece starts and just the last one ends; and that one that does not end sends as much as is promised.
func isInPlace(t *testing.T, c, d Cut, p api.Piece, space int) {
	t.Helper()
	if p.Start != (c.At == 0) || p.End != (d.At == len(c.Data)) || d.At != c.At+len(p.Data) || p.Data == "" {
		t.Fatalf("%s from %d to %d of %d", toldPiece(p), c.At, d.At, len(c.Data))
	}
	if !p.End && len(p.Data) < min(space, greatestPiece)-17 {
		t.Fatalf("%d bytes in a space of %d", len(p.Data), space)
	}
}

// cutAll cuts a packet, piece by piece, in the spaces that are told; in those below 20 nothing need go in. It tells the bytes of all pieces.
func cutAll(t *testing.T, c Cut, l api.Label, space func() int) []string {
	t.Helper()
	var out []string
	data := ""
	first := api.Piece{}
	for c.At < len(c.Data) {
		room := space()
		p, d, e := Next(c, l, room, false)
		if e == api.ErrSpace && room < 20 {
			continue
		}
		if e != api.OK {
			t.Fatalf("%s; space %d: %d", told(c), room, e)
		}
		out = append(out, goesAsPiece(t, p, room))
		isInPlace(t, c, d, p, room)
		data += p.Data
		if p.Start {
			first = p
		}
		if p.End && !p.Start && pdu.Right(first.Total, first.Type, first.Label, data, p.Sum) != api.OK {
			t.Fatalf("%s: its total and its sum are not right", told(c))
		}
		c = d
	}
	if data != c.Data {
		t.Fatalf("%s: put together it is %d bytes, of %d", told(c), len(data), len(c.Data))
	}
	return out
}

// P11.2: in spaces of one size, of every one from 20 to above the greatest piece.
func TestPiecesOfEverySpace(t *testing.T) {
	for space := 20; space < 4110; space++ {
		for _, l := range []api.Label{abc, abcdef, all, same} {
			for _, n := range []int{1, 17, 1400, 4100} {
				cutAll(t, of(l, n, 0), l, func() int { return space })
			}
		}
	}
}

// P11.2: packets of each size, in the least spaces of which it is promised, and the greatest packet.
func TestPiecesOfEveryPacket(t *testing.T) {
	for n := 1; n < 400; n++ {
		for _, own := range []api.Label{abc, abcdef, all, same} {
			for _, l := range laidAs(own) {
				for space := 20; space < 40; space++ {
					cutAll(t, of(own, n, 0), l, func() int { return space })
				}
			}
		}
	}
	for _, own := range labels() {
		for _, l := range laidAs(own) {
			for _, space := range []int{20, 21, 374, 4096, 4097, 4098, math.MaxInt} {
				cutAll(t, of(own, greatestPacket, 0), l, func() int { return space })
			}
		}
	}
}

// P11.2: in spaces of any size, with some between that are too small, in which nothing is changed.
func TestPiecesOfAnySpaces(t *testing.T) {
	chance := rand.New(rand.NewSource(112))
	for range 4000 {
		own := labels()[chance.Intn(len(labels()))]
		l := laidAs(own)[chance.Intn(len(laidAs(own)))]
		most := []int{20, 40, 400, 5000}[chance.Intn(4)]
		small := func() int {
			if chance.Intn(3) == 0 {
				return chance.Intn(25) - 5
			}
			return 20 + chance.Intn(most)
		}
		pieces := cutAll(t, of(own, 1+chance.Intn(3000), 0), l, small)
		// They stand one behind the other, as in a field.
		if got, e := gse.All(strings.Join(pieces, "") + "\x00"); len(got) != len(pieces) || e != api.OK {
			t.Fatalf("%d pieces of %d, %d", len(got), len(pieces), e)
		}
	}
}

// P11.2: in a space of 20 bytes or more something always goes in, wherever it is cut.
func TestSomethingGoesIn(t *testing.T) {
	for _, own := range labels() {
		for _, l := range laidAs(own) {
			for n := 1; n < 60; n++ {
				for at := range n {
					for _, space := range []int{20, 21, 22, 30, 60, 100, 4097, 4098, math.MaxInt} {
						c := of(own, n, at)
						p, d, e := Next(c, l, space, false)
						if e != api.OK {
							t.Fatalf("%s; space %d: %d", told(c), space, e)
						}
						goesAsPiece(t, p, space)
						isInPlace(t, c, d, p, space)
					}
				}
			}
		}
	}
}

// R6: what a call answers does not hang on the calls ahead of it.
func TestSameAgain(t *testing.T) {
	for range 3 {
		firstIn(t, of(abcdef, 30, 0), same, 12, 5)
		firstIn(t, of(abcdef, 30, 0), abcdef, 20, 7)
		mayNot(t, of(abcdef, 30, 0), abc)
		lastIn(t, of(abcdef, 30, 10), abc, 27)
		betweenIn(t, of(abcdef, 30, 10), abc, 26, 19)
		refuses(t, of(abcdef, 30, 29), abc, 7, false, api.ErrSpace)
		wholeIn(t, of(abcdef, 30, 0), same, 34, true)
	}
}

// P11.1, P11.2, R1: whatever there is; and what may be cut comes together again.
func FuzzNext(f *testing.F) {
	f.Add(2048, 0, "abcdef", "0123456789", 0, 3, 0, "abcdef", 19, false)
	f.Add(2048, 1, "abc", "0123456789", 6, 3, 3, "", 10, true)
	f.Add(65536, 9, "", "", -1, 256, 2, "a", math.MinInt, true)
	f.Fuzz(func(t *testing.T, typ, kind int, own, data string, at, id, laidKind int, laid string, space int, whole bool) {
		c := Cut{Type: typ, Label: api.Label{Kind: kind, Bytes: own}, Data: data, At: at, Id: id}
		l := api.Label{Kind: laidKind, Bytes: laid}
		asModel(t, c, l, space, whole)
		c.At = 0
		asModel(t, c, l, space, whole)
		if _, _, e := Next(c, l, 20, false); e == api.OK {
			cutAll(t, c, l, func() int { return 20 + space&0xfff })
		}
	})
}

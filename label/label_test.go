package label

import (
	"math"
	"math/rand"
	"strings"
	"testing"

	"aerial/api"
)

// Labels that may be.
var (
	a      = api.Label{Kind: api.LabelSix, Bytes: "abcdef"}
	first  = api.Label{Kind: api.LabelSix, Bytes: "Abcdef"} // a's, but for the first byte
	last   = api.Label{Kind: api.LabelSix, Bytes: "abcdeF"} // a's, but for the last byte
	blank  = api.Label{Kind: api.LabelSix, Bytes: "\x00\x00\x00\x00\x00\x00"}
	b      = api.Label{Kind: api.LabelThree, Bytes: "abc"} // a's first bytes
	other  = api.Label{Kind: api.LabelThree, Bytes: "abC"}
	zeroes = api.Label{Kind: api.LabelThree, Bytes: "\x00\x00\x00"}
	all    = api.Label{Kind: api.LabelAll}
	same   = api.Label{Kind: api.LabelSame}
	none   = api.Label{}
)

// noKinds tells numbers that are no Kind of a label.
func noKinds() []int {
	return []int{-1, -2, -3, -4, 4, 5, 6, 7, 8, 255, 256, 257, math.MaxInt32, math.MinInt32, 1 << 32, 1<<32 + 1, math.MaxInt, math.MaxInt - 1, math.MinInt, math.MinInt + 1}
}

// names tells labels of six and three bytes that may be.
func names() []api.Label {
	return []api.Label{
		a, first, last, blank, b, other, zeroes,
		{Kind: api.LabelSix, Bytes: "\xff\xff\xff\xff\xff\xff"},
		{Kind: api.LabelSix, Bytes: "äöü"},
		{Kind: api.LabelThree, Bytes: "\xff\xfe\x80"},
		{Kind: api.LabelThree, Bytes: "€"},
	}
}

// wrong tells labels that may not be.
func wrong() []api.Label {
	out := []api.Label{
		none,
		{Kind: api.LabelSix, Bytes: "abcde"},
		{Kind: api.LabelSix, Bytes: "abcdefg"},
		{Kind: api.LabelSix, Bytes: "abc"},
		{Kind: api.LabelSix, Bytes: "äöüäöü"}, // six signs, but twelve bytes
		{Kind: api.LabelThree},
		{Kind: api.LabelThree, Bytes: "ab"},
		{Kind: api.LabelThree, Bytes: "abcd"},
		{Kind: api.LabelThree, Bytes: "abcdef"},
		{Kind: api.LabelThree, Bytes: "äöü"}, // three signs, but six bytes
		{Kind: api.LabelAll, Bytes: "a"},
		{Kind: api.LabelAll, Bytes: "abc"},
		{Kind: api.LabelAll, Bytes: "abcdef"},
		{Kind: api.LabelSame, Bytes: "\x00"},
		{Kind: api.LabelSame, Bytes: "abc"},
		{Kind: api.LabelSame, Bytes: "abcdef"},
		{Kind: api.LabelSix, Bytes: strings.Repeat("abcdef", 10000)},
	}
	for _, kind := range noKinds() {
		for _, s := range []string{"", "a", "abc", "abcdef"} {
			out = append(out, api.Label{Kind: kind, Bytes: s})
		}
	}
	return out
}

// labels tells all of them, and those without bytes.
func labels() []api.Label {
	return append(append(names(), all, same), wrong()...)
}

// modelIsName tells whether a label may be, and is of six or three bytes.
func modelIsName(l api.Label) bool {
	return l.Kind == 0 && len(l.Bytes) == 6 || l.Kind == 1 && len(l.Bytes) == 3
}

// modelMay tells whether a label may be.
func modelMay(l api.Label) bool {
	return modelIsName(l) || (l.Kind == 2 || l.Kind == 3) && l.Bytes == ""
}

// model is what the tests hold a Memory against: all labels that it was given by a name, the last one of which it has.
type model []api.Label

func (m *model) next(l api.Label) api.Label {
	n := len(*m)
	if modelIsName(l) && n > 0 && (*m)[n-1].Kind == l.Kind && (*m)[n-1].Bytes == l.Bytes {
		return api.Label{Kind: 3}
	}
	if modelIsName(l) {
		*m = append(*m, l)
	}
	return l
}

func (m *model) read(l api.Label) (api.Label, api.Errno) {
	switch {
	case !modelMay(l):
		return api.Label{}, 2
	case l.Kind == 3 && len(*m) == 0:
		return api.Label{}, 17
	case l.Kind == 3:
		return (*m)[len(*m)-1], 0
	case modelIsName(l):
		*m = append(*m, l)
	}
	return l, 0
}

// lays asks how a label is laid.
func lays(t *testing.T, m *Memory, l, want api.Label) {
	t.Helper()
	if got := m.Next(l); got != want {
		t.Errorf("Next(%#v): %#v, want %#v", l, got, want)
	}
}

// reads asks as which one a label is read.
func reads(t *testing.T, m *Memory, l, want api.Label, e api.Errno) {
	t.Helper()
	if got, is := m.Read(l); got != want || is != e {
		t.Errorf("Read(%#v): %#v, %d, want %#v, %d", l, got, is, want, e)
	}
}

// hasNone asks, by both ways, that a memory has no label.
func hasNone(t *testing.T, m *Memory) {
	t.Helper()
	reads(t, m, same, none, api.ErrLabel)
	for _, l := range names() {
		copied := *m
		lays(t, &copied, l, l)
	}
}

// has asks, by both ways, that a memory has a label, and no other one.
func has(t *testing.T, m *Memory, l api.Label) {
	t.Helper()
	reads(t, m, same, l, api.OK)
	lays(t, m, l, same)
	for _, x := range names() {
		if x != l {
			copied := *m
			lays(t, &copied, x, x)
		}
	}
}

// memories tells one memory for each way to get a label, or to get rid of it, and the label that it has.
func memories() map[string]struct {
	m *Memory
	l api.Label
} {
	laid, read, reset := new(Memory), new(Memory), new(Memory)
	laid.Next(a)
	read.Read(b)
	reset.Next(a)
	reset.Reset()
	return map[string]struct {
		m *Memory
		l api.Label
	}{"made": {new(Memory), none}, "laid": {laid, a}, "read": {read, b}, "reset": {reset, none}}
}

// keeps asks that a memory has what it should have: a label, or none.
func keeps(t *testing.T, m *Memory, l api.Label) {
	t.Helper()
	if l == none {
		hasNone(t, m)
	} else {
		has(t, m, l)
	}
}

// The chapter's examples, one row each.
func TestExamples(t *testing.T) {
	for _, x := range []struct {
		l api.Label
		e api.Errno
	}{{a, api.OK}, {api.Label{Kind: api.LabelSix, Bytes: "abcde"}, api.ErrArg}, {api.Label{Kind: api.LabelAll, Bytes: "a"}, api.ErrArg}, {api.Label{Kind: 4}, api.ErrArg}} {
		if e := Check(x.l); e != x.e {
			t.Errorf("Check(%#v): %d, want %d", x.l, e, x.e)
		}
	}
	var w Memory
	lays(t, &w, a, a)
	lays(t, &w, a, same)
	lays(t, &w, all, all)
	lays(t, &w, a, same)
	lays(t, &w, b, b)
	lays(t, &w, a, a)
	var r Memory
	reads(t, &r, same, none, api.ErrLabel)
	reads(t, &r, a, a, api.OK)
	reads(t, &r, same, a, api.OK)
	r.Reset()
	reads(t, &r, same, none, api.ErrLabel)
}

// P7.1: each Kind with as many bytes as it asks, with fewer, more and none.
func TestCheckOfKinds(t *testing.T) {
	for kind, asks := range []int{6, 3, 0, 0} {
		for n := range 300 {
			want := api.ErrArg
			if n == asks {
				want = api.OK
			}
			for _, sign := range []string{"a", "\x00", "\xff"} {
				l := api.Label{Kind: kind, Bytes: strings.Repeat(sign, n)}
				if e := Check(l); e != want {
					t.Errorf("Check(%#v): %d, want %d", l, e, want)
				}
			}
		}
	}
}

// P7.1: bytes count, not signs; and a Kind of none makes a label that may not be.
func TestCheckOfLabels(t *testing.T) {
	for _, l := range append(names(), all, same) {
		if e := Check(l); e != api.OK {
			t.Errorf("Check(%#v): %d, want OK", l, e)
		}
	}
	for _, l := range wrong() {
		if e := Check(l); e != api.ErrArg {
			t.Errorf("Check(%#v): %d, want ErrArg", l, e)
		}
	}
}

// P7.1: each Kind, and no Kind.
func TestSize(t *testing.T) {
	for kind, want := range map[int]int{api.LabelSix: 6, api.LabelThree: 3, api.LabelAll: 0, api.LabelSame: 0} {
		if n := Size(kind); n != want {
			t.Errorf("Size(%d): %d, want %d", kind, n, want)
		}
	}
	for _, kind := range noKinds() {
		if n := Size(kind); n != 0 {
			t.Errorf("Size(%d): %d, want 0", kind, n)
		}
	}
}

// isSame asks it in both orders.
func isSame(t *testing.T, x, y api.Label, want bool) {
	t.Helper()
	if Same(x, y) != want || Same(y, x) != want {
		t.Errorf("Same of %#v and %#v: %v, %v, want %v", x, y, Same(x, y), Same(y, x), want)
	}
}

// P7.1: alike, of another Kind, of other bytes, and alike but such as may not be.
func TestSame(t *testing.T) {
	isSame(t, a, api.Label{Kind: api.LabelSix, Bytes: strings.Join([]string{"abc", "def"}, "")}, true)
	isSame(t, b, b, true)
	isSame(t, all, all, true)
	isSame(t, same, same, true)
	isSame(t, all, same, false)
	isSame(t, a, first, false)
	isSame(t, a, last, false)
	isSame(t, a, b, false)
	isSame(t, blank, zeroes, false)
	isSame(t, a, api.Label{Kind: api.LabelThree, Bytes: a.Bytes}, false)
	isSame(t, b, api.Label{Kind: api.LabelSix, Bytes: b.Bytes}, false)
	isSame(t, none, none, false)
}

// P7.1: all labels against all of them.
func TestSameOfAll(t *testing.T) {
	for i, x := range labels() {
		for j, y := range labels() {
			isSame(t, x, y, i == j && modelMay(x))
		}
	}
}

// P7.2: a Memory that is nothing but made has none, whichever way it is made.
func TestMadeHasNone(t *testing.T) {
	var m Memory
	hasNone(t, &m)
	hasNone(t, new(Memory))
	hasNone(t, &Memory{})
}

// P7.2: each label that names a terminal, laid again, behind another one, behind LabelAll, behind LabelSame, behind Reset.
func TestNextAgain(t *testing.T) {
	for _, l := range names() {
		var m Memory
		lays(t, &m, l, l)
		lays(t, &m, l, same)
		lays(t, &m, l, same)
		for _, between := range []api.Label{all, same} {
			lays(t, &m, between, between)
			lays(t, &m, l, same)
		}
		has(t, &m, l)
		for _, x := range names() {
			if x != l {
				lays(t, &m, x, x)
				lays(t, &m, l, l)
			}
		}
		m.Reset()
		lays(t, &m, l, l)
		has(t, &m, l)
	}
}

// P7.2: the same by who reads: a label comes back till another one is read, whatever stands between.
func TestReadAgain(t *testing.T) {
	for _, l := range names() {
		var m Memory
		reads(t, &m, l, l, api.OK)
		reads(t, &m, same, l, api.OK)
		reads(t, &m, same, l, api.OK)
		reads(t, &m, all, all, api.OK)
		reads(t, &m, same, l, api.OK)
		reads(t, &m, l, l, api.OK)
		has(t, &m, l)
		for _, x := range names() {
			reads(t, &m, x, x, api.OK)
			has(t, &m, x)
		}
		m.Reset()
		hasNone(t, &m)
	}
}

// P7.2: labels without bytes, laid and read with a memory that has a label and with one that has none; it keeps what it has.
func TestLabelsWithoutBytes(t *testing.T) {
	for name, x := range memories() {
		t.Run(name, func(t *testing.T) {
			keeps(t, x.m, x.l)
			lays(t, x.m, all, all)
			keeps(t, x.m, x.l)
			lays(t, x.m, same, same)
			keeps(t, x.m, x.l)
			reads(t, x.m, all, all, api.OK)
			keeps(t, x.m, x.l)
			if x.l == none {
				reads(t, x.m, same, none, api.ErrLabel)
			} else {
				reads(t, x.m, same, x.l, api.OK)
			}
			keeps(t, x.m, x.l)
		})
	}
}

// P7.2, R2: a label that may not be is laid as it is, and is not read; the memory keeps what it has.
func TestLabelsThatMayNotBe(t *testing.T) {
	for name, x := range memories() {
		t.Run(name, func(t *testing.T) {
			for _, l := range wrong() {
				lays(t, x.m, l, l)
				lays(t, x.m, l, l)
				keeps(t, x.m, x.l)
				reads(t, x.m, l, none, api.ErrArg)
				keeps(t, x.m, x.l)
			}
		})
	}
}

// P7.2: Reset of a memory that has a label, of one that has none, and twice.
func TestReset(t *testing.T) {
	for name, x := range memories() {
		t.Run(name, func(t *testing.T) {
			x.m.Reset()
			hasNone(t, x.m)
			x.m.Reset()
			hasNone(t, x.m)
			reads(t, x.m, all, all, api.OK)
			lays(t, x.m, all, all)
			hasNone(t, x.m)
		})
	}
}

// P7.2, R1, R3: a Memory that is nil answers l, ErrNil, nothing, at all labels.
func TestNil(t *testing.T) {
	var m *Memory
	for _, l := range labels() {
		lays(t, m, l, l)
		lays(t, m, l, l)
		reads(t, m, l, none, api.ErrNil)
		m.Reset()
	}
}

// P7.2, R6: what one memory has, another one does not know.
func TestMemoriesAreApart(t *testing.T) {
	var x, y Memory
	lays(t, &x, a, a)
	hasNone(t, &y)
	reads(t, &y, b, b, api.OK)
	has(t, &x, a)
	x.Reset()
	has(t, &y, b)
}

// call is one of a memory: 0 Next, 1 Read, 2 Reset.
type call struct {
	what int
	l    api.Label
}

// likeModel asks that a memory answers as the model does, from its beginning on.
func likeModel(t *testing.T, calls []call) {
	t.Helper()
	var m Memory
	var want model
	for i, c := range calls {
		switch c.what {
		case 0:
			if got, l := m.Next(c.l), want.next(c.l); got != l {
				t.Fatalf("%#v: call %d: %#v, want %#v", calls, i, got, l)
			}
		case 1:
			got, is := m.Read(c.l)
			if l, e := want.read(c.l); got != l || is != e {
				t.Fatalf("%#v: call %d: %#v, %d, want %#v, %d", calls, i, got, is, l, e)
			}
		default:
			m.Reset()
			want = nil
		}
	}
}

// rows tells each row of n things of a list.
func rows[T any](of []T, n int) [][]T {
	out := [][]T{nil}
	for range n {
		var longer [][]T
		for _, row := range out {
			for _, x := range of {
				longer = append(longer, append(row[:len(row):len(row)], x))
			}
		}
		out = longer
	}
	return out
}

// P7.2: every row of four calls, with labels that may be, those without bytes, and ones that may not be.
func TestEveryRowOfCalls(t *testing.T) {
	calls := []call{{2, none}}
	for _, l := range []api.Label{a, last, b, all, same, none, {Kind: api.LabelThree, Bytes: a.Bytes}, {Kind: 4}} {
		calls = append(calls, call{0, l}, call{1, l})
	}
	for _, row := range rows(calls, 4) {
		likeModel(t, row)
	}
}

// P7.2: long rows of calls, with all labels.
func TestLongRowsOfCalls(t *testing.T) {
	chance := rand.New(rand.NewSource(7))
	few := []api.Label{a, last, b, other, all, same}
	for range 300 {
		calls := make([]call, 200)
		for i := range calls {
			calls[i] = call{min(chance.Intn(20)/9, 2), few[chance.Intn(len(few))]}
			if chance.Intn(4) == 0 {
				calls[i].l = labels()[chance.Intn(len(labels()))]
			}
		}
		likeModel(t, calls)
	}
}

// readAsLaid asks that labels which one memory lays are read by another one as they were.
func readAsLaid(t *testing.T, w, r *Memory, row []api.Label) {
	t.Helper()
	for i, l := range row {
		laid := w.Next(l)
		if got, e := r.Read(laid); got != l || e != api.OK {
			t.Fatalf("%#v: label %d, laid as %#v, is read as %#v, %d", row, i, laid, got, e)
		}
	}
}

// P7.3: labels of six and three bytes, and LabelAll, in any order.
func TestReadAsLaid(t *testing.T) {
	for _, row := range rows([]api.Label{a, last, b, other, all}, 6) {
		readAsLaid(t, new(Memory), new(Memory), row)
	}
}

// P7.3: both begun at the same place again and again, whatever each of them had ahead.
func TestReadAsLaidBehindReset(t *testing.T) {
	chance := rand.New(rand.NewSource(73))
	of := append(names(), all)
	var w, r Memory
	for range 2000 {
		w.Next(of[chance.Intn(len(of))])
		r.Read(of[chance.Intn(len(of))])
		w.Reset()
		r.Reset()
		row := make([]api.Label, chance.Intn(30))
		for i := range row {
			row[i] = of[chance.Intn(len(of))]
			if i > 0 && chance.Intn(2) == 0 {
				row[i] = row[i-1]
			}
		}
		readAsLaid(t, &w, &r, row)
	}
}

package count

import (
	"math"
	"math/big"
	"math/rand"
	"slices"
	"testing"

	"aerial/api"
)

// most is the greatest number, as an int and as a uint64.
const most = api.MaxCount

// answer is what a call tells.
type answer struct {
	n int
	e api.Errno
}

// bigAnswer is what the tests hold the package against: a number without bounds.
type bigAnswer struct {
	n     big.Int
	wrong bool
}

// answer tells what a call must say of it.
func (b *bigAnswer) answer() answer {
	switch {
	case b.wrong:
		return answer{0, api.ErrArg}
	case b.n.Cmp(big.NewInt(most)) > 0:
		return answer{0, api.ErrOver}
	}
	return answer{int(b.n.Int64()), api.OK}
}

func modelSum(l []int) answer {
	var b bigAnswer
	for _, n := range l {
		b.wrong = b.wrong || n < 0
		b.n.Add(&b.n, big.NewInt(int64(n)))
	}
	return b.answer()
}

func modelTimes(l []int) answer {
	var b bigAnswer
	b.n.SetInt64(1)
	for _, n := range l {
		b.wrong = b.wrong || n < 0
		b.n.Mul(&b.n, big.NewInt(int64(n)))
	}
	return b.answer()
}

// modelUp tells whether n is the least number that, b times, is at least a.
func modelUp(a, b, n int) bool {
	reaches := func(n int) bool {
		all := new(big.Int).Mul(big.NewInt(int64(b)), big.NewInt(int64(n)))
		return all.Cmp(big.NewInt(int64(a))) >= 0
	}
	return n >= 0 && reaches(n) && (n == 0 || !reaches(n-1))
}

func sum(t *testing.T, want answer, l ...int) {
	t.Helper()
	if n, e := Sum(l...); (answer{n, e}) != want {
		t.Errorf("Sum(%d): %d, %d, want %d, %d", l, n, e, want.n, want.e)
	}
}

func times(t *testing.T, want answer, l ...int) {
	t.Helper()
	if n, e := Times(l...); (answer{n, e}) != want {
		t.Errorf("Times(%d): %d, %d, want %d, %d", l, n, e, want.n, want.e)
	}
}

func up(t *testing.T, want answer, a, b int) {
	t.Helper()
	if n, e := Up(a, b); (answer{n, e}) != want {
		t.Errorf("Up(%d, %d): %d, %d, want %d, %d", a, b, n, e, want.n, want.e)
	}
}

// upIsLeast asks for the answer that the promise's own words tell.
func upIsLeast(t *testing.T, a, b int) {
	t.Helper()
	if a < 0 || b < 1 {
		up(t, answer{0, api.ErrArg}, a, b)
		return
	}
	if n, e := Up(a, b); e != api.OK || !modelUp(a, b, n) {
		t.Errorf("Up(%d, %d): %d, %d, which is not the least number that, %d times, is at least %d", a, b, n, e, b, a)
	}
}

// has asks that c is n.
func has(t *testing.T, c *Count, n uint64) {
	t.Helper()
	if c.N() != n {
		t.Errorf("N: %d, want %d", c.N(), n)
	}
}

// fine is an answer without an error.
func fine(n int) answer { return answer{n, api.OK} }

var (
	tooGreat = answer{0, api.ErrOver}
	wrong    = answer{0, api.ErrArg}
)

// edges tells numbers at which something may change.
func edges() []int {
	out := []int{math.MinInt, math.MinInt + 1, -most / 2, -2, -1, 0, 1, 2, 3, 5, 7}
	for _, bit := range []int{16, 20, 30, 31, 32, 33, 61, 62} {
		out = append(out, 1<<bit-1, 1<<bit, 1<<bit+1)
	}
	// The root of the greatest number, and what divides it (7, 49, 73, 127, 337, 92737, 649657).
	out = append(out, 3037000499, 3037000500, 49, 73, 127, 337, 92737, 649657, most/7, most/7+1)
	return append(out, most/3, most/2, most/2+1, most-2, most-1, most)
}

// orders tells all orders of a list.
func orders(l []int) [][]int {
	if len(l) == 0 {
		return [][]int{nil}
	}
	var out [][]int
	for i := range l {
		rest := slices.Delete(slices.Clone(l), i, i+1)
		for _, o := range orders(rest) {
			out = append(out, append([]int{l[i]}, o...))
		}
	}
	return out
}

// The chapter's examples, one row each.
func TestExamples(t *testing.T) {
	var c Count
	c.Add(5)
	c.Add(math.MaxUint64)
	has(t, &c, 1<<63-1)
	sum(t, fine(6), 1, 2, 3)
	sum(t, tooGreat, 1<<63-1, 1)
	sum(t, wrong, 1, -1)
	times(t, fine(12), 3, 4)
	times(t, tooGreat, 1<<62, 2)
	times(t, fine(0), 1<<62, 2, 0)
	up(t, fine(4), 7, 2)
	up(t, fine(4), 8, 2)
	up(t, fine(0), 0, 5)
	up(t, wrong, 1, 0)
}

// P4.1: a counter is 0 at first, and n more behind each Add.
func TestCountGoesOn(t *testing.T) {
	var c Count
	has(t, &c, 0)
	has(t, new(Count), 0)
	all := uint64(0)
	for _, n := range []uint64{0, 1, 0, 2, 7, 1 << 20, 1 << 40, 1 << 61, 1 << 62} {
		c.Add(n)
		all += n
		has(t, &c, all)
		has(t, &c, all)
	}
}

// P4.1: one below the greatest number, at it, and beyond it, where it stays.
func TestCountStaysAtTheGreatest(t *testing.T) {
	for _, first := range []uint64{0, 1, 5, most - 2, most - 1, most} {
		for _, n := range []uint64{0, 1, 2, 3, most - 6, most - 5, most - 2, most - 1, most, most + 1, most + 2, math.MaxUint64 - 5, math.MaxUint64 - 1, math.MaxUint64} {
			var c Count
			c.Add(first)
			has(t, &c, first)
			c.Add(n)
			want := uint64(most)
			if n <= most-first {
				want = first + n
			}
			has(t, &c, want)
		}
	}
	var c Count
	c.Add(most)
	for _, n := range []uint64{0, 1, 1, most, most + 1, math.MaxUint64, 0} {
		c.Add(n)
		has(t, &c, most)
	}
}

// P4.1: a number above the greatest one, added to nothing.
func TestCountOfTooGreatNumber(t *testing.T) {
	for _, n := range []uint64{most + 1, most + 2, 1<<63 + 1<<62, math.MaxUint64} {
		var c Count
		c.Add(n)
		has(t, &c, most)
	}
}

// P4.1 and R3: one that is none.
func TestNoCount(t *testing.T) {
	var c *Count
	has(t, c, 0)
	for _, n := range []uint64{0, 1, most, math.MaxUint64} {
		c.Add(n)
		has(t, c, 0)
	}
}

// P4.1: each counter is its own.
func TestCountsAreTheirOwn(t *testing.T) {
	var a, b Count
	a.Add(3)
	b.Add(4)
	a.Add(5)
	has(t, &a, 8)
	has(t, &b, 4)
}

// P4.4: a counter never falls, and has all that was added while that is at most the greatest number.
func TestCountNeverFalls(t *testing.T) {
	chance := rand.New(rand.NewSource(1))
	for range 500 {
		var c Count
		var all big.Int
		for range 20 {
			n := chance.Uint64() >> chance.Intn(64)
			was := c.N()
			c.Add(n)
			if c.N() < was {
				t.Fatalf("%d fell to %d behind Add(%d)", was, c.N(), n)
			}
			all.Add(&all, new(big.Int).SetUint64(n))
			want := uint64(most)
			if all.Cmp(big.NewInt(most)) < 0 {
				want = all.Uint64()
			}
			has(t, &c, want)
		}
	}
}

// P4.2 and R4: no numbers, as no list, a nil one and an empty one; and one number.
func TestOfNoneAndOne(t *testing.T) {
	sum(t, fine(0))
	sum(t, fine(0), []int(nil)...)
	sum(t, fine(0), []int{}...)
	times(t, fine(1))
	times(t, fine(1), []int(nil)...)
	times(t, fine(1), []int{}...)
	for _, n := range edges() {
		want := fine(n)
		if n < 0 {
			want = wrong
		}
		sum(t, want, n)
		times(t, want, n)
	}
}

// P4.2: two and three numbers, each at its edges.
func TestOfTwoAndThree(t *testing.T) {
	for _, a := range edges() {
		for _, b := range edges() {
			sum(t, modelSum([]int{a, b}), a, b)
			times(t, modelTimes([]int{a, b}), a, b)
			for _, c := range edges() {
				sum(t, modelSum([]int{a, b, c}), a, b, c)
				times(t, modelTimes([]int{a, b, c}), a, b, c)
			}
		}
	}
}

// P4.2: small numbers, all of them.
func TestOfSmallNumbers(t *testing.T) {
	for a := -3; a < 30; a++ {
		for b := -3; b < 30; b++ {
			sum(t, modelSum([]int{a, b}), a, b)
			times(t, modelTimes([]int{a, b}), a, b)
		}
	}
}

// P4.2: the greatest number itself, and one more than it.
func TestSumAtTheGreatest(t *testing.T) {
	sum(t, fine(most), most)
	sum(t, fine(most), most, 0)
	sum(t, fine(most), 0, most, 0)
	sum(t, fine(most), most-1, 1)
	sum(t, fine(most), 1<<62, 1<<62-1)
	sum(t, fine(most), most/3, most/3, most/3, 1)
	sum(t, tooGreat, most/3, most/3, most/3, 2)
	sum(t, tooGreat, most, 1)
	sum(t, tooGreat, 1, most)
	sum(t, tooGreat, 1<<62, 1<<62)
	sum(t, tooGreat, most, most)
}

// P4.2: sums that would come round to small numbers.
func TestSumDoesNotComeRound(t *testing.T) {
	for n := 2; n < 12; n++ {
		sum(t, tooGreat, slices.Repeat([]int{most}, n)...)
		sum(t, tooGreat, append(slices.Repeat([]int{most}, n), n)...)
		sum(t, tooGreat, append(slices.Repeat([]int{1 << 62}, n), 0, 1)...)
	}
}

// P4.2: the greatest number itself, which is 7 times 7 times 73 times 127 times 337 times 92737 times 649657; and one more than it.
func TestTimesAtTheGreatest(t *testing.T) {
	times(t, fine(most), most)
	times(t, fine(most), most, 1)
	times(t, fine(most), 1, most, 1)
	times(t, fine(most), 7, most/7)
	times(t, fine(most), 7, 7, 73, 127, 337, 92737, 649657)
	times(t, fine(1<<62), slices.Repeat([]int{2}, 62)...)
	times(t, tooGreat, slices.Repeat([]int{2}, 63)...)
	times(t, tooGreat, most, 2)
	times(t, tooGreat, 2, most)
	times(t, tooGreat, 7, most/7+1)
	times(t, fine(3037000499*3037000499), 3037000499, 3037000499)
	times(t, tooGreat, 3037000500, 3037000500)
}

// P4.2: products that would come round to 0, or to small numbers.
func TestTimesDoesNotComeRound(t *testing.T) {
	times(t, tooGreat, 1<<32, 1<<32)
	times(t, tooGreat, 1<<32+1, 1<<32+1)
	times(t, tooGreat, most, most)
	times(t, tooGreat, slices.Repeat([]int{2}, 64)...)
	times(t, tooGreat, slices.Repeat([]int{2}, 200)...)
	times(t, tooGreat, slices.Repeat([]int{most}, 9)...)
	times(t, tooGreat, 1<<62, 2, 1, 1)
	times(t, tooGreat, 1<<62, 2, 1, 3)
}

// P4.2: a number below 0, ahead of numbers that are too great, between them, and behind them; beside a 0, too.
func TestBelowZeroIsToldFirst(t *testing.T) {
	for _, n := range []int{-1, -2, -most, math.MinInt} {
		for _, l := range [][]int{{n}, {n, 0}, {n, 1}, {n, most, most}, {n, most, 0}, {n, n}, {n, n, most}, {n, 1 << 62, 2, 0}} {
			for _, o := range orders(l) {
				sum(t, wrong, o...)
				times(t, wrong, o...)
			}
		}
	}
}

// P4.2: a 0 ahead of numbers whose product is too great, between them, and behind them.
func TestZeroTimesTooGreat(t *testing.T) {
	for _, l := range [][]int{{0, most, most}, {0, 1 << 62, 2}, {0, 1 << 32, 1 << 32, 1 << 32}, {0, 0, most, 2}, {0, most, 2, 1}} {
		for _, o := range orders(l) {
			times(t, fine(0), o...)
		}
	}
}

// P4.3: small numbers, all of them.
func TestUpOfSmallNumbers(t *testing.T) {
	for a := -5; a < 150; a++ {
		for b := -5; b < 150; b++ {
			upIsLeast(t, a, b)
		}
	}
}

// P4.3: each number at its edges, divided by each.
func TestUpOfEdges(t *testing.T) {
	for _, a := range edges() {
		for _, b := range edges() {
			upIsLeast(t, a, b)
		}
	}
}

// P4.3: the greatest number, divided.
func TestUpOfTheGreatest(t *testing.T) {
	up(t, fine(most), most, 1)
	up(t, fine(1<<62), most, 2)
	up(t, fine(most/7), most, 7)
	up(t, fine(2), most, most-1)
	up(t, fine(1), most, most)
	up(t, fine(1), most-1, most)
	up(t, fine(1), 1, most)
	up(t, fine(0), 0, most)
}

// P4.3: a below 0, b below 1, both.
func TestUpOfWrongNumbers(t *testing.T) {
	for _, x := range [][2]int{{-1, 1}, {math.MinInt, 1}, {1, 0}, {0, 0}, {most, 0}, {1, -1}, {0, -1}, {most, -1}, {most, math.MinInt}, {-1, 0}, {-1, -1}, {-4, -2}, {math.MinInt, -1}, {math.MinInt, math.MinInt}} {
		up(t, wrong, x[0], x[1])
	}
}

// P4.4: in each order numbers have the same sum, and the same product.
func TestOrderChangesNothing(t *testing.T) {
	for _, l := range [][]int{{1, 2, 3, 4}, {most, 1, 0, 2}, {most - 6, 1, 2, 3}, {most - 5, 1, 2, 3}, {-1, most, most, 0}, {1 << 31, 1 << 31, 1, 2}, {1 << 31, 1 << 31, 2, 3}, {7, 49, most / 7, 0}, {7, 7, 73, most / 7 / 7 / 73}} {
		for _, o := range orders(l) {
			sum(t, modelSum(l), o...)
			times(t, modelTimes(l), o...)
		}
	}
}

// P4.2 and P4.4: lists in no order, of numbers of all sizes, as they are and turned about.
func TestOfManyNumbers(t *testing.T) {
	chance := rand.New(rand.NewSource(2))
	for range 3000 {
		l := make([]int, chance.Intn(9))
		for i := range l {
			l[i] = int(chance.Uint64() >> (1 + chance.Intn(63)))
			if chance.Intn(40) == 0 {
				l[i] = -l[i]
			}
		}
		s, p := modelSum(l), modelTimes(l)
		sum(t, s, l...)
		times(t, p, l...)
		slices.Reverse(l)
		sum(t, s, l...)
		times(t, p, l...)
	}
}

// P4.2: a long list.
func TestOfLongList(t *testing.T) {
	const long = 1 << 16
	ones := slices.Repeat([]int{1}, long)
	sum(t, fine(long), ones...)
	times(t, fine(1), ones...)
	ones[long-1] = most
	sum(t, tooGreat, ones...)
	times(t, fine(most), ones...)
	ones[0] = -1
	sum(t, wrong, ones...)
	times(t, wrong, ones...)
}

// R5: a list that is handed in stays as it is.
func TestListStaysAsItIs(t *testing.T) {
	for _, l := range [][]int{{3, 1, 2}, {most, 2, 0}, {1, -1, most}} {
		was := slices.Clone(l)
		Sum(l...)
		Times(l...)
		if !slices.Equal(l, was) {
			t.Errorf("%d became %d", was, l)
		}
	}
}

// R6: what a call answers does not hang on the calls ahead of it.
func TestSameAgain(t *testing.T) {
	for range 3 {
		sum(t, fine(6), 1, 2, 3)
		sum(t, tooGreat, most, 1)
		times(t, fine(24), 2, 3, 4)
		times(t, tooGreat, most, 2)
		times(t, wrong, 0, -1)
		up(t, fine(3), 9, 4)
		up(t, wrong, 9, 0)
	}
}

// P4.1 to P4.4: whatever numbers there are.
func FuzzNumbers(f *testing.F) {
	f.Add(1, 2, 3)
	f.Add(most, 1, 0)
	f.Add(-1, 1<<62, 2)
	f.Fuzz(func(t *testing.T, a, b, c int) {
		for _, o := range orders([]int{a, b, c}) {
			sum(t, modelSum([]int{a, b, c}), o...)
			times(t, modelTimes([]int{a, b, c}), o...)
		}
		upIsLeast(t, a, b)
		upIsLeast(t, a, c)
		var n Count
		n.Add(uint64(a))
		was := n.N()
		n.Add(uint64(b))
		if n.N() < was || n.N() > most {
			t.Errorf("%d became %d behind Add(%d)", was, n.N(), uint64(b))
		}
	})
}

package fid

import (
	"math"
	"math/rand"
	"slices"
	"testing"

	"aerial/api"
)

// model is what the tests hold a Pool against: which ids are in use, and how often one was taken; so the next one is told by how many were.
type model struct {
	used  map[int]int
	taken int
}

func newModel() *model { return &model{used: map[int]int{}} }

func (m *model) take() (int, api.Errno) {
	next := m.taken % 256
	if m.used[next] == 1 {
		return 0, 18
	}
	m.used[next] = 1
	m.taken++
	return next, 0
}

func (m *model) free(id int) api.Errno {
	switch {
	case id < 0 || id > 255:
		return 2
	case m.used[id] == 0:
		return 5
	}
	delete(m.used, id)
	return 0
}

// noIds tells numbers that are no id.
func noIds() []int {
	return []int{-1, -2, -255, -256, -257, 256, 257, 511, 512, 1 << 16, 1<<16 + 1, math.MaxInt32, math.MinInt32, 1 << 32, 1<<32 + 1, -1 << 32, math.MaxInt, math.MaxInt - 1, math.MinInt, math.MinInt + 1, math.MinInt + 256}
}

// allIds tells the ids that there are, from 0 on.
func allIds() []int {
	out := make([]int, 256)
	for i := range out {
		out[i] = i
	}
	return out
}

// takes asks for an id that is given.
func takes(t *testing.T, p *Pool, want int) {
	t.Helper()
	if id, e := p.Take(); id != want || e != api.OK {
		t.Fatalf("Take: %d, %d, want %d, OK", id, e, want)
	}
}

// takesAll asks for ids that are given, from one to another one, both too.
func takesAll(t *testing.T, p *Pool, from, to int) {
	t.Helper()
	for id := from; id <= to; id++ {
		takes(t, p, id)
	}
}

// isBusy asks for an id that is not given.
func isBusy(t *testing.T, p *Pool) {
	t.Helper()
	if id, e := p.Take(); id != 0 || e != api.ErrBusy {
		t.Fatalf("Take: %d, %d, want 0, ErrBusy", id, e)
	}
}

// frees gives an id back.
func frees(t *testing.T, p *Pool, id int, want api.Errno) {
	t.Helper()
	if e := p.Free(id); e != want {
		t.Fatalf("Free(%d): %d, want %d", id, e, want)
	}
}

// has asks how many are in use.
func has(t *testing.T, p *Pool, want int) {
	t.Helper()
	if n := p.Used(); n != want {
		t.Fatalf("Used: %d, want %d", n, want)
	}
}

// isIn asks all that a pool tells of what it is in: how many are in use, which ones, and, of a copy, the next one.
func isIn(t *testing.T, p *Pool, next int, used ...int) {
	t.Helper()
	has(t, p, len(used))
	for _, id := range allIds() {
		copied := *p
		want := api.ErrNone
		if slices.Contains(used, id) {
			want = api.OK
		}
		frees(t, &copied, id, want)
	}
	copied := *p
	if slices.Contains(used, next) {
		isBusy(t, &copied)
		frees(t, &copied, next, api.OK)
	}
	takes(t, &copied, next)
}

// full makes a pool whose ids are all in use, the next one of which is one of them.
func full(t *testing.T, next int) *Pool {
	t.Helper()
	p := New()
	takesAll(t, p, 0, 255)
	for id := range next {
		frees(t, p, id, api.OK)
		takes(t, p, id)
	}
	return p
}

// orders tells all ids in order, against the order, and mixed.
func orders() map[string][]int {
	against := allIds()
	slices.Reverse(against)
	mixed := allIds()
	rand.New(rand.NewSource(12)).Shuffle(len(mixed), func(i, j int) { mixed[i], mixed[j] = mixed[j], mixed[i] })
	return map[string][]int{"in order": allIds(), "against the order": against, "mixed": mixed}
}

// The chapter's examples, of one pool, row behind row.
func TestExamples(t *testing.T) {
	p := New()
	takes(t, p, 0)
	takes(t, p, 1)
	frees(t, p, 0, api.OK)
	takes(t, p, 2)
	has(t, p, 2)
	frees(t, p, 0, api.ErrNone)
	frees(t, p, 256, api.ErrArg)
	frees(t, p, -1, api.ErrArg)
	takesAll(t, p, 3, 255)
	takes(t, p, 0)
	frees(t, p, 1, api.OK)
	takes(t, p, 1)
}

// P12.1: a pool that is new has no id in use, and 0 is the next one; so has one that is declared and nothing more.
func TestNew(t *testing.T) {
	isIn(t, New(), 0)
	isIn(t, new(Pool), 0)
	takes(t, New(), 0)
}

// P12.1: how many are in use behind each call, also behind one that told an error.
func TestUsedBehindEachCall(t *testing.T) {
	p := New()
	has(t, p, 0)
	for _, id := range allIds() {
		takes(t, p, id)
		has(t, p, id+1)
	}
	isBusy(t, p)
	has(t, p, 256)
	for i, id := range orders()["mixed"] {
		frees(t, p, id, api.OK)
		has(t, p, 255-i)
		frees(t, p, id, api.ErrNone)
		has(t, p, 255-i)
		frees(t, p, id-256, api.ErrArg)
		frees(t, p, id+256, api.ErrArg)
		has(t, p, 255-i)
	}
}

// P12.1, R6: asking how many are in use changes nothing.
func TestUsedChangesNothing(t *testing.T) {
	p := New()
	takesAll(t, p, 0, 2)
	frees(t, p, 1, api.OK)
	has(t, p, 2)
	has(t, p, 2)
	isIn(t, p, 3, 0, 2)
}

// P12.2: round about, each id from 0 to 255, and 0 behind 255, again and again, as long as each one was freed.
func TestTakeRoundAbout(t *testing.T) {
	p := New()
	for i := range 2000 {
		takes(t, p, i%256)
		frees(t, p, i%256, api.OK)
		has(t, p, 0)
	}
}

// P12.2: at the end: 255 is given, 0 is behind it, whether it is free or not.
func TestTakeBehindTheLastOne(t *testing.T) {
	p := New()
	takesAll(t, p, 0, 254)
	for id := range 255 {
		frees(t, p, id, api.OK)
	}
	isIn(t, p, 255)
	takes(t, p, 255)
	isIn(t, p, 0, 255)
	takes(t, p, 0)
	isIn(t, p, 1, 0, 255)

	p = full(t, 0)
	isBusy(t, p)
	frees(t, p, 0, api.OK)
	takes(t, p, 0)
	isBusy(t, p)
}

// P12.2: with all ids in use none is given, whichever is the next one, and only that one, once it is free, is.
func TestTakeOfAllInUse(t *testing.T) {
	for _, next := range []int{0, 1, 2, 127, 128, 254, 255} {
		p := full(t, next)
		for range 3 {
			isBusy(t, p)
		}
		isIn(t, p, next, allIds()...)
		for _, id := range allIds() {
			if id != next {
				frees(t, p, id, api.OK)
				isBusy(t, p)
			}
		}
		isIn(t, p, next, next)
		frees(t, p, next, api.OK)
		takes(t, p, next)
		has(t, p, 1)
		takes(t, p, (next+1)%256)
	}
}

// P12.2: the next one is in use and others are free, also the ones beside it: they are not given, and it stays the next one.
func TestTakeWaitsForTheNextOne(t *testing.T) {
	for _, next := range []int{0, 1, 100, 254, 255} {
		p := full(t, next)
		before, behind := (next+255)%256, (next+1)%256
		frees(t, p, before, api.OK)
		frees(t, p, behind, api.OK)
		isBusy(t, p)
		isBusy(t, p)
		has(t, p, 254)
		frees(t, p, next, api.OK)
		takes(t, p, next)
		takes(t, p, behind)
		isBusy(t, p)
		has(t, p, 255)
		frees(t, p, before, api.ErrNone)
	}
}

// P12.3: each id that is in use is given back, and no other one is touched.
func TestFreeEach(t *testing.T) {
	for _, id := range allIds() {
		p := full(t, 0)
		frees(t, p, id, api.OK)
		isIn(t, p, 0, slices.DeleteFunc(allIds(), func(x int) bool { return x == id })...)
	}
}

// P12.3: numbers that are no id, of a pool that is new, of one in between, and of one whose ids are all in use.
func TestFreeOfNoId(t *testing.T) {
	p, some, all := New(), New(), full(t, 0)
	takesAll(t, some, 0, 4)
	frees(t, some, 2, api.OK)
	for _, id := range noIds() {
		frees(t, p, id, api.ErrArg)
		frees(t, some, id, api.ErrArg)
		frees(t, all, id, api.ErrArg)
	}
	isIn(t, p, 0)
	isIn(t, some, 5, 0, 1, 3, 4)
	isIn(t, all, 0, allIds()...)
}

// P12.3: an id that was never taken, at both ends and between, also the next one.
func TestFreeOfNeverTaken(t *testing.T) {
	p := New()
	for _, id := range allIds() {
		frees(t, p, id, api.ErrNone)
	}
	isIn(t, p, 0)
	takesAll(t, p, 0, 9)
	for id := 10; id < 256; id++ {
		frees(t, p, id, api.ErrNone)
	}
	isIn(t, p, 10, 0, 1, 2, 3, 4, 5, 6, 7, 8, 9)
}

// P12.3: an id that is freed twice, and once more when it was taken again.
func TestFreeTwice(t *testing.T) {
	for _, id := range []int{0, 1, 128, 254, 255} {
		p := New()
		takesAll(t, p, 0, 255)
		frees(t, p, id, api.OK)
		frees(t, p, id, api.ErrNone)
		frees(t, p, id, api.ErrNone)
		has(t, p, 255)
		for other := range id {
			frees(t, p, other, api.OK)
			takes(t, p, other)
		}
		takes(t, p, id)
		has(t, p, 256)
		frees(t, p, id, api.OK)
		frees(t, p, id, api.ErrNone)
		has(t, p, 255)
	}
}

// P12.2, P12.3: what is freed, or is not, does not move the next one.
func TestFreeKeepsTheNextOne(t *testing.T) {
	p := New()
	takesAll(t, p, 0, 19)
	frees(t, p, 19, api.OK)
	frees(t, p, 0, api.OK)
	frees(t, p, 0, api.ErrNone)
	frees(t, p, 20, api.ErrNone)
	frees(t, p, 256, api.ErrArg)
	takes(t, p, 20)
	frees(t, p, 20, api.OK)
	takes(t, p, 21)
}

// P12.2, P12.3: all ids given back, in each order, whichever is the next one: it is given then, and all others behind it.
func TestAllGivenBack(t *testing.T) {
	for name, order := range orders() {
		t.Run(name, func(t *testing.T) {
			for _, next := range []int{0, 1, 77, 254, 255} {
				p := full(t, next)
				for _, id := range order {
					frees(t, p, id, api.OK)
				}
				isIn(t, p, next)
				for i := range 256 {
					takes(t, p, (next+i)%256)
				}
				isIn(t, p, next, allIds()...)
			}
		})
	}
}

// apart asks that of 256 ids that were given one behind the other no two are alike, wherever one begins.
func apart(t *testing.T, given []int) {
	t.Helper()
	last := map[int]int{}
	for i, id := range given {
		if at, ok := last[id]; ok && i-at < 256 {
			t.Fatalf("%d was given as number %d and again as number %d", id, at, i)
		}
		last[id] = i
	}
}

// P12.4: none is freed between: 256 that differ, and no other one.
func TestGivenOnesDiffer(t *testing.T) {
	p := New()
	var given []int
	for range 300 {
		if id, e := p.Take(); e == api.OK {
			given = append(given, id)
		}
	}
	apart(t, given)
	if len(given) != 256 {
		t.Errorf("%d ids were given, want 256", len(given))
	}
}

// P12.4: with others freed between, by chance, soon or late, and some that are kept for long.
func TestGivenOnesDifferWithOthersFreed(t *testing.T) {
	chance := rand.New(rand.NewSource(124))
	for _, most := range []int{1, 2, 100, 255, 256} {
		p := New()
		var given, kept []int
		for range 5000 {
			if id, e := p.Take(); e == api.OK {
				given = append(given, id)
				kept = append(kept, id)
			}
			for len(kept) >= most || len(kept) > 0 && chance.Intn(3) == 0 {
				at := chance.Intn(min(len(kept), 5))
				frees(t, p, kept[at], api.OK)
				kept = slices.Delete(kept, at, at+1)
			}
		}
		apart(t, given)
		if len(given) < 1000 {
			t.Errorf("at most %d in use: only %d ids were given", most, len(given))
		}
	}
}

// P12.4: an id that is freed at once comes again behind 255 others, and not before.
func TestComesAgainBehindOthers(t *testing.T) {
	p := New()
	takesAll(t, p, 0, 41)
	frees(t, p, 41, api.OK)
	for range 5 {
		for i := range 255 {
			id := (42 + i) % 256
			if id < 41 {
				frees(t, p, id, api.OK)
			}
			takes(t, p, id)
		}
		takes(t, p, 41)
		frees(t, p, 41, api.OK)
		for id := 42; id < 256; id++ {
			frees(t, p, id, api.OK)
		}
	}
}

// R6: what one pool gives, another one does not know.
func TestPoolsAreApart(t *testing.T) {
	x, y := New(), New()
	takesAll(t, x, 0, 9)
	isIn(t, y, 0)
	frees(t, y, 3, api.ErrNone)
	takes(t, y, 0)
	takes(t, y, 1)
	frees(t, y, 0, api.OK)
	frees(t, x, 7, api.OK)
	isIn(t, x, 10, 0, 1, 2, 3, 4, 5, 6, 8, 9)
	isIn(t, y, 2, 1)
	isIn(t, New(), 0)
}

// P12.3, R1, R3: a pool that is none, also with a number that is no id.
func TestNil(t *testing.T) {
	var p *Pool
	for range 2 {
		if id, e := p.Take(); id != 0 || e != api.ErrNil {
			t.Errorf("Take: %d, %d, want 0, ErrNil", id, e)
		}
		has(t, p, 0)
		for _, id := range append(allIds(), noIds()...) {
			frees(t, p, id, api.ErrNil)
		}
	}
}

// take stands for a Take in a row of calls; each other number is given back.
const take = -1000

// likeModel asks that a pool answers as the model does, from its beginning on, and another one the same.
func likeModel(t *testing.T, calls []int) {
	t.Helper()
	p, again, want := New(), New(), newModel()
	for i, c := range calls {
		if c == take {
			id, is := p.Take()
			if x, e := want.take(); id != x || is != e {
				t.Fatalf("%v: call %d: Take: %d, %d, want %d, %d", calls[:i+1], i, id, is, x, e)
			}
			if x, e := again.Take(); x != id || e != is {
				t.Fatalf("%v: call %d: Take: %d, %d, and the same again %d, %d", calls[:i+1], i, id, is, x, e)
			}
		} else {
			is := p.Free(c)
			if e := want.free(c); is != e {
				t.Fatalf("%v: call %d: Free(%d): %d, want %d", calls[:i+1], i, c, is, e)
			}
			if e := again.Free(c); e != is {
				t.Fatalf("%v: call %d: Free(%d): %d, and the same again %d", calls[:i+1], i, c, is, e)
			}
		}
		if n := p.Used(); n != len(want.used) || n != again.Used() {
			t.Fatalf("%v: call %d: Used: %d, want %d", calls[:i+1], i, n, len(want.used))
		}
	}
}

// P12.1 to P12.3, R6: every row of seven calls, with ids at the beginning, and numbers that are none.
func TestEveryRowOfCalls(t *testing.T) {
	of := []int{take, 0, 1, 2, 256, -1}
	rows := [][]int{nil}
	for range 7 {
		var longer [][]int
		for _, row := range rows {
			for _, c := range of {
				longer = append(longer, append(row[:len(row):len(row)], c))
			}
		}
		rows = longer
	}
	for _, row := range rows {
		likeModel(t, row)
	}
}

// P12.1 to P12.3, R6: long rows of calls, in which a pool fills up, and is emptied, and goes round.
func TestLongRowsOfCalls(t *testing.T) {
	chance := rand.New(rand.NewSource(1212))
	for i := range 60 {
		calls := make([]int, 3000)
		at := 0
		for j := range calls {
			switch n := chance.Intn(100); {
			case n < 30+i:
				calls[j] = take
			case n < 90:
				calls[j] = at % 256
				at++
			case n < 98:
				calls[j] = chance.Intn(256)
			default:
				calls[j] = noIds()[chance.Intn(len(noIds()))]
			}
		}
		likeModel(t, calls)
	}
}

// P12.1 to P12.3, R1: any row of calls: of two bytes the first one tells how many are taken, or else the second one what is given back.
func FuzzLikeModel(f *testing.F) {
	f.Add([]byte{127, 0, 127, 0, 2, 0, 1, 0, 200, 0, 1, 0, 255, 1, 129, 0, 128, 255, 5, 0})
	f.Fuzz(func(t *testing.T, b []byte) {
		var calls []int
		for i := 0; i+1 < len(b) && len(calls) < 3000; i += 2 {
			switch n := b[i]; {
			case n < 128:
				calls = append(calls, slices.Repeat([]int{take}, int(n))...)
			case n == 128:
				calls = append(calls, int(b[i+1])-256)
			case n == 129:
				calls = append(calls, int(b[i+1])+256)
			default:
				calls = append(calls, int(b[i+1]))
			}
		}
		likeModel(t, calls)
	})
}

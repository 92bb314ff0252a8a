package ring

import (
	"fmt"
	"math"
	"math/rand"
	"reflect"
	"runtime"
	"strconv"
	"strings"
	"testing"
	"weak"

	"aerial/api"
)

// model is what the tests hold a Ring against: all that was ever put, one behind the other, and how many of it were taken.
type model[T any] struct {
	most  int
	ever  []T
	taken int
}

func (m *model[T]) left() []T { return m.ever[m.taken:] }

func (m *model[T]) put(x T) api.Errno {
	if len(m.left()) == m.most {
		return 6
	}
	m.ever = append(m.ever, x)
	return 0
}

func (m *model[T]) take() (x T, is bool) {
	if len(m.left()) > 0 {
		x, is = m.left()[0], true
		m.taken++
	}
	return x, is
}

// like tells whether two things are: lists element by element.
func like[T any](x, y T) bool { return reflect.DeepEqual(x, y) }

// puts lays things behind the others, for which there is room.
func puts[T any](t *testing.T, r *Ring[T], things ...T) {
	t.Helper()
	for _, x := range things {
		if e := r.Put(x); e != api.OK {
			t.Fatalf("Put(%v): %d, want OK", x, e)
		}
	}
}

// isFull asks that there is no room for some things.
func isFull[T any](t *testing.T, r *Ring[T], things ...T) {
	t.Helper()
	for _, x := range things {
		if e := r.Put(x); e != api.ErrFull {
			t.Fatalf("Put(%v): %d, want ErrFull", x, e)
		}
	}
}

// takes takes things that are there, from the first one on.
func takes[T any](t *testing.T, r *Ring[T], things ...T) {
	t.Helper()
	for _, want := range things {
		if x, is := r.Take(); !is || !like(x, want) {
			t.Fatalf("Take: %v, %t, want %v, true", x, is, want)
		}
	}
}

// takesNone asks that there is no thing that could be taken.
func takesNone[T any](t *testing.T, r *Ring[T]) {
	t.Helper()
	var zero T
	if x, is := r.Take(); is || !like(x, zero) {
		t.Fatalf("Take: %v, %t, want a zero one and false", x, is)
	}
}

// begins asks for the first thing and the number of them, all that is told but for the list of them.
func begins[T any](t *testing.T, r *Ring[T], things ...T) {
	t.Helper()
	if n := r.Len(); n != len(things) {
		t.Fatalf("Len: %d, want %d", n, len(things))
	}
	var want T
	if len(things) > 0 {
		want = things[0]
	}
	if x, is := r.First(); is != (len(things) > 0) || !like(x, want) {
		t.Fatalf("First: %v, %t, want %v, %t", x, is, want, len(things) > 0)
	}
}

// has asks all that a ring tells of the things in it, twice, as asking changes nothing.
func has[T any](t *testing.T, r *Ring[T], things ...T) {
	t.Helper()
	for range 2 {
		begins(t, r, things...)
		tells(t, r.All(), things...)
	}
}

// tells asks what is in a list.
func tells[T any](t *testing.T, list []T, things ...T) {
	t.Helper()
	if len(list) != len(things) || len(list) > 0 && !like(list, things) {
		t.Fatalf("%d things: %.300v, want %d: %.300v", len(list), list, len(things), things)
	}
}

// numbers tells so many of them, from one on.
func numbers(from, n int) []int {
	out := make([]int, n)
	for i := range out {
		out[i] = from + i
	}
	return out
}

// round makes a ring of numbers which so many went through already, and tells what is the next number.
func round(t *testing.T, most, times int) (*Ring[int], int) {
	t.Helper()
	r := New[int](most)
	for i := range times {
		puts(t, r, i)
		takes(t, r, i)
	}
	return r, times
}

// The chapter's examples.
func TestExamples(t *testing.T) {
	r := New[string](2)
	puts(t, r, "a", "b")
	isFull(t, r, "c")
	begins(t, r, "a", "b")
	takes(t, r, "a")
	puts(t, r, "c")
	takes(t, r, "b", "c")
	takesNone(t, r)
	if New[string](0) != nil || New[string](65537) != nil {
		t.Error("New of 0 or 65537 made a ring")
	}
}

// noRooms tells numbers for which there is no ring.
func noRooms() []int {
	return []int{0, -1, -2, -65535, -65536, -65537, 65537, 65538, 1<<17 - 1, 1 << 17, 1<<17 + 1, math.MaxInt32, math.MinInt32, 1 << 32, 1<<32 + 1, 1<<32 + 65536, -1 << 32, 1 - 1<<32, math.MaxInt, math.MaxInt - 1, math.MinInt, math.MinInt + 1, math.MinInt + 65536}
}

// P15.1: numbers for which there is none, whatever the things are.
func TestNewOfNone(t *testing.T) {
	for _, most := range noRooms() {
		if New[int](most) != nil || New[string](most) != nil || New[[]int](most) != nil || New[api.Packet](most) != nil || New[struct{}](most) != nil {
			t.Errorf("New(%d) made a ring", most)
		}
	}
}

// P15.1, P15.2: a ring that is new is empty, and has room for just as many as it was made for.
func TestNewHasRoomForMost(t *testing.T) {
	for _, most := range append(numbers(1, 70), 255, 256, 257, 1000, 10000, 32767, 32768, 65534, 65535, 65536) {
		r := New[int](most)
		if r == nil {
			t.Fatalf("New(%d) made no ring", most)
		}
		has(t, r)
		takesNone(t, r)
		puts(t, r, numbers(5, most)...)
		has(t, r, numbers(5, most)...)
		isFull(t, r, 0, 1)
		has(t, r, numbers(5, most)...)
		takes(t, r, numbers(5, most)...)
		takesNone(t, r)
		has(t, r)
	}
}

// R1: things of which so many as there is room for would not go into any memory.
func TestNewOfGreatThings(t *testing.T) {
	type great [1 << 20]byte
	r := New[great](65536)
	for i := range 4 {
		var x great
		x[0], x[len(x)-1] = byte(i), byte(i+1)
		if e := r.Put(x); e != api.OK || r.Len() != 1 {
			t.Fatalf("Put: %d, and there are %d", e, r.Len())
		}
		if y, is := r.Take(); !is || y != x {
			t.Fatal("Take: another one")
		}
	}
}

// P15.2: a ring that is empty, new and behind things that went, each call of it.
func TestEmpty(t *testing.T) {
	for _, most := range []int{1, 2, 3, 4, 5, 16, 65536} {
		for times := range 40 {
			r, next := round(t, most, times)
			has(t, r)
			takesNone(t, r)
			takesNone(t, r)
			has(t, r)
			puts(t, r, next)
			has(t, r, next)
			takes(t, r, next)
			takesNone(t, r)
			has(t, r)
		}
	}
}

// P15.2: a ring that is full, each call of it, wherever it is; and it has room again for each thing that went.
func TestFull(t *testing.T) {
	for _, most := range []int{1, 2, 3, 4, 5, 16, 33} {
		for times := range 40 {
			r, next := round(t, most, times)
			puts(t, r, numbers(next, most)...)
			for gone := range most + 1 {
				isFull(t, r, -1, next)
				has(t, r, numbers(next, most)...)
				takes(t, r, numbers(next, gone)...)
				has(t, r, numbers(next+gone, most-gone)...)
				puts(t, r, numbers(next+most, gone)...)
				next += gone
			}
			isFull(t, r, -1)
			takes(t, r, numbers(next, most)...)
			takesNone(t, r)
		}
	}
}

// P15.2: First leaves the thing where it is, and Put behind it does not become the first one.
func TestFirst(t *testing.T) {
	r := New[string](3)
	for _, x := range []string{"a", "b", "c"} {
		puts(t, r, x)
		for range 3 {
			if first, is := r.First(); first != "a" || !is {
				t.Errorf("First: %q, %t, want a, true", first, is)
			}
		}
	}
	has(t, r, "a", "b", "c")
	takes(t, r, "a")
	begins(t, r, "b", "c")
}

// P15.1: all of none, of one, of some, of all that there is room for, wherever a ring is, how often it went round.
func TestAll(t *testing.T) {
	for _, most := range []int{1, 2, 3, 7, 8, 9} {
		for times := range 60 {
			for n := range most + 1 {
				r, next := round(t, most, times)
				puts(t, r, numbers(next, n)...)
				has(t, r, numbers(next, n)...)
			}
		}
	}
	for _, times := range []int{0, 1, 65535, 65536, 65537, 200000} {
		r, next := round(t, 65536, times)
		puts(t, r, numbers(next, 65536)...)
		has(t, r, numbers(next, 65536)...)
	}
}

// some makes rings with so many numbers, one that had never more, and one that was full before; and tells the first number of each.
func some(t *testing.T, most, n int) map[*Ring[int]]int {
	t.Helper()
	short, next := round(t, most, 5)
	puts(t, short, numbers(next, n)...)
	full, _ := round(t, most, 5)
	puts(t, full, numbers(next, most)...)
	takes(t, full, numbers(next, most-n)...)
	return map[*Ring[int]]int{short: next, full: next + most - n}
}

// P15.1, R5: what All told stays as it told it, whatever comes and goes behind it, till none of it is there any more.
func TestAllKeepsWhatItTold(t *testing.T) {
	for _, most := range []int{1, 2, 3, 8, 9, 100} {
		for n := range most + 1 {
			for r, first := range some(t, most, n) {
				told := r.All()
				for i := range 3 * most {
					if i >= most-n {
						takes(t, r, first+i-(most-n))
					}
					puts(t, r, first+n+i)
					tells(t, told, numbers(first, n)...)
				}
				for range most {
					r.Take()
				}
				has(t, r)
				tells(t, told, numbers(first, n)...)
			}
		}
	}
}

// R5: what All told is new: what is done to it, in it and in the room behind it, the ring does not see, nor another list that it told.
func TestAllIsNew(t *testing.T) {
	for _, most := range []int{1, 2, 3, 8, 9, 100} {
		for n := range most + 1 {
			for r, first := range some(t, most, n) {
				told, again := r.All(), r.All()
				room := told[:cap(told)]
				for i := range room {
					room[i] = -1
				}
				has(t, r, numbers(first, n)...)
				tells(t, again, numbers(first, n)...)
				puts(t, r, numbers(first+n, most-n)...)
				has(t, r, numbers(first, most)...)
			}
		}
	}
}

// nothing asks a ring that has nothing, and takes nothing, for each of its calls.
func nothing[T any](t *testing.T, r *Ring[T], want api.Errno, things ...T) {
	t.Helper()
	var zero T
	for _, x := range append(things, zero) {
		if e := r.Put(x); e != want {
			t.Errorf("Put(%v): %d, want %d", x, e, want)
		}
		has(t, r)
		takesNone(t, r)
	}
}

// P15.2, R1, R3: a ring that is none, also one that New did not make, each call of it.
func TestNil(t *testing.T) {
	nothing(t, nil, api.ErrNil, 1, -1)
	nothing(t, nil, api.ErrNil, "a", "")
	nothing(t, nil, api.ErrNil, []byte("a"))
	nothing(t, nil, api.ErrNil, api.Packet{No: 1, Bytes: "a"})
	nothing[error](t, nil, api.ErrNil, api.ErrArg)
	nothing(t, New[int](0), api.ErrNil, 1)
	nothing(t, New[string](65537), api.ErrNil, "a")
}

// R1: a ring that is declared and nothing more was made for no thing, so that it is empty, and full.
func TestDeclared(t *testing.T) {
	nothing(t, new(Ring[int]), api.ErrFull, 1, -1)
	nothing(t, new(Ring[string]), api.ErrFull, "a")
}

// goesRound asks that things of a type come as they went, in order, each one once, in rings of some rooms.
func goesRound[T any](things ...T) func(t *testing.T) {
	return func(t *testing.T) {
		for most := 1; most <= len(things)+1; most++ {
			r := New[T](most)
			want := model[T]{most: most}
			for range 5 {
				for i, x := range things {
					if e, is := want.put(x), r.Put(x); e != is {
						t.Fatalf("Put(%v): %d, want %d", x, is, e)
					}
					has(t, r, want.left()...)
					if i%3 == 2 {
						first, _ := want.take()
						takes(t, r, first)
					}
				}
			}
			takes(t, r, want.left()...)
			takesNone(t, r)
			has(t, r)
		}
	}
}

// P15.1 to P15.3: things of many types, among them ones that are zero ones, and ones that are alike.
func TestTypes(t *testing.T) {
	one, two := 1, 1
	t.Run("numbers", goesRound(1, 0, -1, math.MaxInt, math.MinInt, 0, 0))
	t.Run("bytes", goesRound[byte](0, 1, 255, 0))
	t.Run("fractions", goesRound(0, 0.5, math.Inf(-1), -0.5))
	t.Run("truths", goesRound(false, true, false, false))
	t.Run("texts", goesRound("", "a", "", strings.Repeat("b", 70000), "a", "\x00"))
	t.Run("lists", goesRound([]int{1, 2}, nil, []int{}, []int{0}, nil))
	t.Run("lists of texts", goesRound([]string{"a", ""}, nil, []string{""}))
	t.Run("arrays", goesRound([3]int{}, [3]int{1, 2, 3}, [3]int{}))
	t.Run("structs", goesRound(api.Packet{No: 1, Term: 2, Class: 3, Bytes: "abc", At: 4}, api.Packet{}, api.Packet{Bytes: "abc"}, api.Packet{}))
	t.Run("structs without anything", goesRound(struct{}{}, struct{}{}, struct{}{}, struct{}{}))
	t.Run("structs with lists", goesRound(api.Config{Labels: []api.Label{{Kind: 1, Bytes: "abc"}}}, api.Config{}))
	t.Run("errors' numbers", goesRound(api.OK, api.ErrFull, api.OK))
	t.Run("pointers", goesRound(&one, nil, &two, &one))
	t.Run("maps", goesRound(map[int]int{1: 2}, nil, map[int]int{}))
	t.Run("anything", goesRound[any](1, nil, "a", 1.5, nil, []byte("a"), false))
	t.Run("rings", goesRound(New[int](1), nil, New[int](2)))
}

// P15.2: things that are zero ones are there, unlike none.
func TestZeroThings(t *testing.T) {
	r := New[int](3)
	puts(t, r, 0, 0, 0)
	isFull(t, r, 0)
	has(t, r, 0, 0, 0)
	takes(t, r, 0, 0, 0)
	takesNone(t, r)

	p := New[*int](2)
	puts(t, p, nil)
	has(t, p, nil)
	takes(t, p, nil)
	takesNone(t, p)
}

// P15.2, P15.3: a pointer that comes is the one that went, and the thing that it points to is as it was.
func TestPointersAreTheSame(t *testing.T) {
	x, y := 5, 5
	r := New[*int](2)
	puts(t, r, &x, &y)
	all := r.All()
	first, _ := r.Take()
	second, _ := r.Take()
	if all[0] != &x || all[1] != &y || first != &x || second != &y || x != 5 || y != 5 {
		t.Error("others came than went")
	}
}

// held tells whether anything holds still what is pointed to so.
func held[T any](p weak.Pointer[T]) bool {
	for range 5 {
		runtime.GC()
	}
	return p.Value() != nil
}

// P15.2: what was taken has left: the ring holds it no more, while it holds the others; nor what it refused, nor a list that it told.
func TestWhatWentIsNotHeld(t *testing.T) {
	r := New[*[64]int](2)
	put := func() weak.Pointer[[64]int] {
		x := new([64]int)
		r.Put(x)
		return weak.Make(x)
	}
	first, second, third := put(), put(), put()
	if !held(first) || !held(second) || held(third) {
		t.Error("what was put must be held, and nothing else")
	}
	r.Take()
	if held(first) || !held(second) {
		t.Error("behind one Take: what was taken must not be held, and what is there must be")
	}
	fourth := put()
	r.All()
	r.Take()
	if held(second) || !held(fourth) {
		t.Error("behind two Takes: what was taken must not be held, and what is there must be")
	}
	r.Take()
	if held(fourth) {
		t.Error("a ring that is empty holds what was taken")
	}
	runtime.KeepAlive(r)
}

// P15.2: as long as nothing is put behind it, too: each of many things is held till it is taken, and not behind it.
func TestEachThatWentIsNotHeld(t *testing.T) {
	r := New[*[64]int](20)
	var put []weak.Pointer[[64]int]
	for range 20 {
		x := new([64]int)
		puts(t, r, x)
		put = append(put, weak.Make(x))
	}
	for gone := range 21 {
		for i, p := range put {
			if i%7 == gone%7 && held(p) != (i >= gone) {
				t.Errorf("%d were taken: thing %d: held: %t", gone, i, !(i >= gone))
			}
		}
		r.Take()
	}
	runtime.KeepAlive(r)
}

// P15.3: the things that are taken are the ones that were put, in order, each once, however often it goes round, full, nearly empty, and between.
func TestGoesRoundManyTimes(t *testing.T) {
	for _, most := range []int{1, 2, 3, 7, 64, 100, 1000, 65535, 65536} {
		for _, there := range []int{0, 1, most / 2, most - 1} {
			if there >= most {
				continue
			}
			r, next := round(t, most, 3)
			puts(t, r, numbers(next, there)...)
			for i := range 4*most + 500 {
				puts(t, r, next+there+i)
				if n := r.Len(); n != there+1 {
					t.Fatalf("Len: %d, want %d", n, there+1)
				}
				takes(t, r, next+i)
			}
			has(t, r, numbers(next+4*most+500, there)...)
		}
	}
}

// R6: what one ring has, another one does not know.
func TestRingsAreApart(t *testing.T) {
	x, y := New[string](2), New[string](3)
	puts(t, x, "a", "b")
	has(t, y)
	puts(t, y, "c", "d")
	takes(t, x, "a")
	puts(t, x, "e")
	isFull(t, x, "f")
	puts(t, y, "f")
	has(t, x, "b", "e")
	has(t, y, "c", "d", "f")
	has(t, New[string](2))
}

// take stands for a Take in a row of calls; each other one puts the number of things that were put till then.
const take = 't'

// likeModel asks that a ring answers as the model does, from its beginning on, and another one the same; asking for all things only every so many calls.
func likeModel(t *testing.T, most int, calls string, every int) {
	t.Helper()
	r, again, want := New[string](most), New[string](most), model[string]{most: most}
	for i, c := range []byte(calls) {
		if c == take {
			x, e := want.take()
			y, is := r.Take()
			z, too := again.Take()
			if x != y || x != z || e != is || e != too {
				t.Fatalf("room %d, %.300s: call %d: Take: %q, %t, and again %q, %t, want %q, %t", most, calls, i, y, is, z, too, x, e)
			}
		} else {
			thing := strconv.Itoa(len(want.ever))
			if e, is, too := want.put(thing), r.Put(thing), again.Put(thing); e != is || e != too {
				t.Fatalf("room %d, %.300s: call %d: Put: %d, and again %d, want %d", most, calls, i, is, too, e)
			}
		}
		begins(t, r, want.left()...)
		if i%every == 0 || i == len(calls)-1 {
			has(t, r, want.left()...)
			has(t, again, want.left()...)
		}
	}
}

// P15.1 to P15.3, R6: every row of twelve calls, of rings with little room.
func TestEveryRowOfCalls(t *testing.T) {
	for most := 1; most <= 4; most++ {
		for row := range 1 << 12 {
			likeModel(t, most, strings.NewReplacer("0", "p", "1", "t").Replace(fmt.Sprintf("%012b", row)), 1)
		}
	}
}

// P15.1 to P15.3, R6: long rows of calls, in which a ring fills up, and is emptied, and goes round, again and again.
func TestLongRowsOfCalls(t *testing.T) {
	chance := rand.New(rand.NewSource(15))
	for _, most := range []int{1, 2, 5, 31, 32, 33, 500, 10000, 65536} {
		var calls strings.Builder
		for calls.Len() < 8*most+1000 {
			n := chance.Intn(2*most + 2)
			if chance.Intn(2) == 0 {
				calls.WriteString(strings.Repeat("p", n))
			} else {
				calls.WriteString(strings.Repeat("t", n))
			}
		}
		likeModel(t, most, calls.String(), most)
	}
}

// P15.1 to P15.3, R1: any row of calls, of a ring with any room.
func FuzzLikeModel(f *testing.F) {
	f.Add(2, "ppptptttt")
	f.Add(0, "ptp")
	f.Add(65537, "ptp")
	f.Add(65536, "ptppttt")
	f.Add(-1, "tp")
	f.Fuzz(func(t *testing.T, most int, calls string) {
		if most < 1 || most > 65536 {
			if New[string](most) != nil {
				t.Fatalf("New(%d) made a ring", most)
			}
			nothing(t, New[string](most), api.ErrNil, calls)
			return
		}
		likeModel(t, most, calls, 1+len(calls)/100)
	})
}

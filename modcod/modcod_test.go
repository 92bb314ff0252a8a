package modcod

import (
	"math"
	"slices"
	"strconv"
	"strings"
	"testing"

	"aerial/api"
)

// The chapter's tables, as it writes them: of each modulation its rates, of each rate its bits, and what the numbers need.
const (
	rateWords  = "1/4 1/3 2/5 1/2 3/5 2/3 3/4 4/5 5/6 8/9 9/10"
	longWords  = "16008 21408 25728 32208 38688 43040 48408 51648 53840 57472 58192"
	shortWords = "3072 5232 6312 7032 9552 10632 11712 12432 13152 14232 none"
	needWords  = "-235 -124 -30 100 223 310 403 468 518 620 642 550 662 791 935 1069 1098 897 1021 1103 1161 1289 1313 1273 1364 1428 1569 1605"
)

var modulationRates = [4]string{
	rateWords,
	"3/5 2/3 3/4 5/6 8/9 9/10",
	"2/3 3/4 4/5 5/6 8/9 9/10",
	"3/4 4/5 5/6 8/9 9/10",
}

// known is what the chapter's tables say of a number.
type known struct {
	modulation, need int
	long, short      string
}

// model is what the tests hold the package against: of each number what the chapter's tables say.
func model() map[int]known {
	rates, long, short, needs := strings.Fields(rateWords), strings.Fields(longWords), strings.Fields(shortWords), strings.Fields(needWords)
	out := map[int]known{}
	for modulation, words := range modulationRates {
		for _, word := range strings.Fields(words) {
			at := slices.Index(rates, word)
			num := len(out) + 1
			out[num] = known{modulation, number(needs[num-1]), long[at], short[at]}
		}
	}
	return out
}

func number(word string) int {
	n, err := strconv.Atoi(word)
	if err != nil {
		panic(err)
	}
	return n
}

// answer is what a call tells.
type answer struct {
	n int
	e api.Errno
}

// wrong is the answer where there is no such mode.
var wrong = answer{0, api.ErrMode}

func fine(n int) answer { return answer{n, api.OK} }

// modelKbch tells the bits of a frame by the chapter's tables.
func modelKbch(m api.Mode) answer {
	k, ok := model()[m.Num]
	word := k.long
	if m.Short {
		word = k.short
	}
	if !ok || word == "none" {
		return wrong
	}
	return fine(number(word))
}

// modelSlots divides as the chapter says; its answer is held against the bits, none of which may be left.
func modelSlots(t *testing.T, modulation int, short bool) int {
	t.Helper()
	bits := 64800
	if short {
		bits = 16200
	}
	slot := 90 * []int{2, 3, 4, 5}[modulation]
	if bits%slot != 0 {
		t.Fatalf("%d bits are no whole slots of %d", bits, slot)
	}
	return bits / slot
}

// modelPilots goes slot by slot, and counts the pilots behind each 16 that have another one behind them.
func modelPilots(slots int) int {
	found := 0
	for i := 1; i <= slots; i++ {
		if i%16 == 0 && i+1 <= slots {
			found++
		}
	}
	return found
}

func modelSymbols(t *testing.T, m api.Mode) answer {
	t.Helper()
	if modelKbch(m) == wrong {
		return wrong
	}
	slots := modelSlots(t, model()[m.Num].modulation, m.Short)
	all := 90 + 90*slots
	if m.Pilots {
		all += 36 * modelPilots(slots)
	}
	return fine(all)
}

// ask asks that a call told what it must.
func ask(t *testing.T, what string, of any, n int, e api.Errno, want answer) {
	t.Helper()
	if (answer{n, e}) != want {
		t.Errorf("%s of %+v: %d, %d, want %d, %d", what, of, n, e, want.n, want.e)
	}
}

func is(t *testing.T, m api.Mode, want bool) {
	t.Helper()
	if Is(m) != want {
		t.Errorf("Is(%+v): %v", m, !want)
	}
}

func kbch(t *testing.T, m api.Mode, want answer) {
	t.Helper()
	n, e := Kbch(m)
	ask(t, "Kbch", m, n, e, want)
}

func field(t *testing.T, m api.Mode, want answer) {
	t.Helper()
	n, e := Field(m)
	ask(t, "Field", m, n, e, want)
}

func symbols(t *testing.T, m api.Mode, want answer) {
	t.Helper()
	n, e := Symbols(m)
	ask(t, "Symbols", m, n, e, want)
}

func need(t *testing.T, num int, want answer) {
	t.Helper()
	n, e := Need(num)
	ask(t, "Need", num, n, e, want)
}

func modulation(t *testing.T, num int, want answer) {
	t.Helper()
	n, e := Modulation(num)
	ask(t, "Modulation", num, n, e, want)
}

func sturdier(t *testing.T, a, b int, want bool) {
	t.Helper()
	if Sturdier(a, b) != want {
		t.Errorf("Sturdier(%d, %d): %v", a, b, !want)
	}
}

func all(t *testing.T, short bool, want []int) {
	t.Helper()
	if l := All(short); !slices.Equal(l, want) {
		t.Errorf("All(%v): %d, want %d", short, l, want)
	}
}

// isNone asks that no call knows the mode.
func isNone(t *testing.T, m api.Mode) {
	t.Helper()
	is(t, m, false)
	kbch(t, m, wrong)
	field(t, m, wrong)
	symbols(t, m, wrong)
}

// variants tells a number's modes, short and not, with pilots and without.
func variants(num int) []api.Mode {
	return []api.Mode{{Num: num}, {Num: num, Pilots: true}, {Num: num, Short: true}, {Num: num, Short: true, Pilots: true}}
}

// noNumbers tells numbers of which there is no mode: beside the first and the last one, below 0, and far above; also such as would be one if they were cut to fewer bits.
func noNumbers() []int {
	out := []int{0, -1, -2, -27, -28, -29, 29, 30, 31, 32, 33, 56, 57, 100, 1000, math.MaxInt, math.MaxInt - 1, math.MinInt, math.MinInt + 1}
	for _, bit := range []int{5, 8, 16, 32, 62} {
		for _, num := range []int{1, 12, 28} {
			out = append(out, 1<<bit+num, -1<<bit+num)
		}
	}
	return out
}

// Both lists of all modes, written out by hand from the chapter's needs.
var (
	longList  = []int{1, 2, 3, 4, 5, 6, 7, 8, 9, 12, 10, 11, 13, 14, 18, 15, 19, 16, 17, 20, 21, 24, 22, 23, 25, 26, 27, 28}
	shortList = []int{1, 2, 3, 4, 5, 6, 7, 8, 9, 12, 10, 13, 14, 18, 15, 19, 16, 20, 21, 24, 22, 25, 26, 27}
)

// The chapter's examples, one row each.
func TestExamples(t *testing.T) {
	for _, pilots := range []bool{false, true} {
		kbch(t, api.Mode{Num: 1, Pilots: pilots}, fine(16008))
		field(t, api.Mode{Num: 1, Pilots: pilots}, fine(1991))
	}
	symbols(t, api.Mode{Num: 1}, fine(32490))
	symbols(t, api.Mode{Num: 1, Pilots: true}, fine(33282))
	kbch(t, api.Mode{Num: 1, Short: true, Pilots: true}, fine(3072))
	field(t, api.Mode{Num: 1, Short: true, Pilots: true}, fine(374))
	symbols(t, api.Mode{Num: 1, Short: true, Pilots: true}, fine(8370))
	is(t, api.Mode{Num: 11, Short: true}, false)
	is(t, api.Mode{Num: 11}, true)
	is(t, api.Mode{Num: 0}, false)
	is(t, api.Mode{Num: 29}, false)
	sturdier(t, 1, 2, true)
	sturdier(t, 12, 10, true)
	sturdier(t, 18, 15, true)
	need(t, 28, fine(1605))
	l := All(true)
	if len(l) != 24 || !slices.Equal(l[:12], []int{1, 2, 3, 4, 5, 6, 7, 8, 9, 12, 10, 13}) {
		t.Errorf("All(true): %d", l)
	}
}

// The chapter's tables have 28 numbers, or the tests below would ask for too little.
func TestModelIsWhole(t *testing.T) {
	if n := len(model()); n != 28 || api.Modes != 28 {
		t.Errorf("%d numbers", n)
	}
}

// P5.1: each number, short and not, with pilots and without.
func TestEachMode(t *testing.T) {
	for num := 1; num <= 28; num++ {
		for _, m := range variants(num) {
			bits := modelKbch(m)
			if bits == wrong {
				isNone(t, m)
				continue
			}
			is(t, m, true)
			kbch(t, m, bits)
			field(t, m, fine(bits.n/8-10))
			symbols(t, m, modelSymbols(t, m))
		}
	}
}

// P5.1: symbols that were counted by hand: of each modulation, short and not, without pilots and with them.
func TestSymbolsOfEachModulation(t *testing.T) {
	for _, x := range []struct {
		first, last int
		want        [4]int // in the order of variants
	}{
		{1, 10, [4]int{32490, 33282, 8190, 8370}},
		{12, 16, [4]int{21690, 22194, 5490, 5598}},
		{18, 22, [4]int{16290, 16686, 4140, 4212}},
		{24, 27, [4]int{13050, 13338, 3330, 3402}},
	} {
		for num := x.first; num <= x.last; num++ {
			for i, m := range variants(num) {
				symbols(t, m, fine(x.want[i]))
			}
		}
	}
}

// P5.1: there is no short mode of the rate 9/10, though there is one that is not short.
func TestNoShortModeOfNineTenths(t *testing.T) {
	for _, num := range []int{11, 17, 23, 28} {
		for _, pilots := range []bool{false, true} {
			isNone(t, api.Mode{Num: num, Short: true, Pilots: pilots})
			m := api.Mode{Num: num, Pilots: pilots}
			is(t, m, true)
			kbch(t, m, fine(58192))
			field(t, m, fine(7264))
		}
		if slices.Contains(All(true), num) || !slices.Contains(All(false), num) {
			t.Errorf("%d is in the wrong list", num)
		}
	}
}

// P5.1 and P5.2: numbers of which there is no mode.
func TestNoSuchNumber(t *testing.T) {
	for _, num := range noNumbers() {
		for _, m := range variants(num) {
			isNone(t, m)
		}
		need(t, num, wrong)
		modulation(t, num, wrong)
	}
	for num := -300; num <= 300; num++ {
		is(t, api.Mode{Num: num}, num >= 1 && num <= 28)
	}
}

// P5.1: slots that are a multiple of 16 have no pilots behind the last one; one slot more has.
func TestPilotsAmongSlots(t *testing.T) {
	for _, x := range [][2]int{{1, 0}, {2, 0}, {15, 0}, {16, 0}, {17, 1}, {18, 1}, {31, 1}, {32, 1}, {33, 2}, {144, 8}, {145, 9}, {240, 14}, {241, 15}} {
		if n := pilotsAmong(x[0]); n != x[1] {
			t.Errorf("%d slots: %d, want %d", x[0], n, x[1])
		}
	}
	for slots := 1; slots < 1000; slots++ {
		if n, want := pilotsAmong(slots), modelPilots(slots); n != want {
			t.Errorf("%d slots: %d, want %d", slots, n, want)
		}
	}
	// 240 and 144 slots, 15 times and 9 times 16, have pilots 14 times and 8 times.
	symbols(t, api.Mode{Num: 13, Pilots: true}, fine(90+240*90+14*36))
	symbols(t, api.Mode{Num: 28, Pilots: true}, fine(90+144*90+8*36))
}

// P5.2: each number, the short modes of which may be none.
func TestNeedAndModulation(t *testing.T) {
	for num, k := range model() {
		need(t, num, fine(k.need))
		modulation(t, num, fine(k.modulation))
	}
	// At the borders of the modulations.
	for _, x := range [][2]int{{1, 0}, {11, 0}, {12, 1}, {17, 1}, {18, 2}, {23, 2}, {24, 3}, {28, 3}} {
		modulation(t, x[0], fine(x[1]))
	}
}

// P5.2: each number, held against each one, itself as well.
func TestSturdierOfEach(t *testing.T) {
	known := model()
	for a := 1; a <= 28; a++ {
		sturdier(t, a, a, false)
		for b := 1; b <= 28; b++ {
			sturdier(t, a, b, known[a].need < known[b].need)
		}
	}
}

// P5.2: nothing is sturdier than what is none, and that than nothing.
func TestSturdierOfNone(t *testing.T) {
	for _, no := range noNumbers() {
		for num := 1; num <= 28; num++ {
			sturdier(t, no, num, false)
			sturdier(t, num, no, false)
		}
		for _, other := range noNumbers() {
			sturdier(t, no, other, false)
		}
	}
}

// P5.2: both lists, whole and in order.
func TestAll(t *testing.T) {
	all(t, false, longList)
	all(t, true, shortList)
}

// P5.2: each list has just the modes that there are, each one once, and each one is sturdier than those behind it.
func TestAllIsInOrder(t *testing.T) {
	for _, short := range []bool{false, true} {
		l := All(short)
		for num := -5; num <= 40; num++ {
			if slices.Contains(l, num) != Is(api.Mode{Num: num, Short: short}) {
				t.Errorf("short %v: %d", short, num)
			}
		}
		for i := range l {
			for _, later := range l[i+1:] {
				sturdier(t, l[i], later, true)
				sturdier(t, later, l[i], false)
			}
		}
	}
}

// R5: a list that is changed between two calls, or made longer, changes no later answer, nor one that was given already.
func TestAllIsNew(t *testing.T) {
	for _, x := range []struct {
		short bool
		want  []int
	}{{false, longList}, {true, shortList}} {
		kept := All(x.short)
		l := All(x.short)
		l = append(l, 99)
		for i := range l {
			l[i] = -1
		}
		clear(l[:cap(l)])
		all(t, x.short, x.want)
		if !slices.Equal(kept, x.want) {
			t.Errorf("short %v: an answer became %d", x.short, kept)
		}
	}
	all(t, false, longList)
	all(t, true, shortList)
}

// P5.3: no two modes need the same.
func TestNoTwoNeedTheSame(t *testing.T) {
	seen := map[int]int{}
	for num := 1; num <= 28; num++ {
		n, _ := Need(num)
		if other, ok := seen[n]; ok {
			t.Errorf("%d and %d need %d", other, num, n)
		}
		seen[n] = num
	}
}

// P5.3: a frame's bits are whole bytes: those of its header and of its field.
func TestBitsAreWholeBytes(t *testing.T) {
	for _, short := range []bool{false, true} {
		for _, num := range All(short) {
			m := api.Mode{Num: num, Short: short}
			bits, _ := Kbch(m)
			bytes, _ := Field(m)
			if bits%8 != 0 || bytes < 1 || 8*(bytes+api.HeadSize) != bits {
				t.Errorf("%+v: %d bits, %d bytes", m, bits, bytes)
			}
		}
	}
}

// P5.3: pilots only add symbols: there are more of these, and nothing else is another one.
func TestPilotsOnlyAdd(t *testing.T) {
	for _, short := range []bool{false, true} {
		for _, num := range All(short) {
			without, with := api.Mode{Num: num, Short: short}, api.Mode{Num: num, Short: short, Pilots: true}
			few, _ := Symbols(without)
			more, _ := Symbols(with)
			if more <= few || (more-few)%36 != 0 {
				t.Errorf("%+v: %d, with pilots %d", without, few, more)
			}
			n, e := Kbch(without)
			kbch(t, with, answer{n, e})
			n, e = Field(without)
			field(t, with, answer{n, e})
		}
	}
}

// P5.3: a modulation with more bits a symbol has fewer slots, and so fewer symbols; modes of one modulation have as many.
func TestFewerSlotsOfMoreBits(t *testing.T) {
	for _, short := range []bool{false, true} {
		for _, pilots := range []bool{false, true} {
			for _, a := range All(short) {
				for _, b := range All(short) {
					modA, _ := Modulation(a)
					modB, _ := Modulation(b)
					symA, _ := Symbols(api.Mode{Num: a, Short: short, Pilots: pilots})
					symB, _ := Symbols(api.Mode{Num: b, Short: short, Pilots: pilots})
					if modA < modB && symA <= symB || modA == modB && symA != symB {
						t.Errorf("short %v, pilots %v: %d has %d symbols, %d has %d", short, pilots, a, symA, b, symB)
					}
				}
			}
		}
	}
}

// R6: what a call answers does not hang on the calls ahead of it.
func TestSameAgain(t *testing.T) {
	for range 3 {
		for _, num := range []int{28, 0, 1, 11, 29, 12} {
			for _, m := range variants(num) {
				kbch(t, m, modelKbch(m))
				symbols(t, m, modelSymbols(t, m))
			}
		}
		all(t, true, shortList)
		all(t, false, longList)
		sturdier(t, 12, 10, true)
		sturdier(t, 10, 12, false)
		need(t, 1, fine(-235))
		need(t, 29, wrong)
	}
}

// P5.1 and P5.2: whatever numbers there are.
func FuzzModes(f *testing.F) {
	f.Add(1, 2, true, false)
	f.Add(28, 29, true, true)
	f.Add(math.MinInt, 11, false, true)
	f.Fuzz(func(t *testing.T, a, b int, short, pilots bool) {
		known := model()
		m := api.Mode{Num: a, Short: short, Pilots: pilots}
		is(t, m, modelKbch(m) != wrong)
		kbch(t, m, modelKbch(m))
		symbols(t, m, modelSymbols(t, m))
		x, okX := known[a]
		y, okY := known[b]
		sturdier(t, a, b, okX && okY && x.need < y.need)
		if !okX {
			need(t, a, wrong)
			modulation(t, a, wrong)
		}
	})
}

package conf

import (
	"math"
	"math/rand"
	"slices"
	"strings"
	"testing"

	"aerial/api"
)

// example is the chapter's.
func example() api.Config {
	return api.Config{
		Short: true, Pilots: true, Grant: 10000, Weights: [4]int{1, 1, 1, 1}, Quantum: 10000, Age: 20,
		Depth: 4000, Rate: 300, Packets: 4, Bytes: 2000, Margin: 50, Hyst: 50, Hold: 3, Timeout: 100,
		Memory: 6048, Labels: names(2),
	}
}

// roomy is a configuration in which each number may be another one, as far as its range and the others let it.
func roomy() api.Config {
	return api.Config{
		Grant: 1000000, Weights: [4]int{2, 3, 4, 5}, Quantum: 20000, Age: 1,
		Depth: 10000000, Rate: 1, Packets: 1, Bytes: 1, Margin: 10, Hyst: 20, Hold: 5, Timeout: 10,
		Memory: 1 << 30, Labels: names(1),
	}
}

// names tells n labels of both kinds, no two of which are alike.
func names(n int) []api.Label {
	out := make([]api.Label, n)
	for i := range out {
		out[i] = api.Label{Kind: api.LabelSix, Bytes: "abcde" + string(rune('A'+i))}
		if i%2 == 1 {
			out[i] = api.Label{Kind: api.LabelThree, Bytes: "ab" + string(rune('A'+i))}
		}
	}
	return out
}

// with tells a configuration that is the same but for one turn; its labels are its own.
func with(c api.Config, turn func(c *api.Config)) api.Config {
	c.Labels = slices.Clone(c.Labels)
	turn(&c)
	return c
}

// number is one of a configuration, with its range as the chapter writes it.
type number struct {
	name            string
	of              func(c *api.Config) *int
	least, greatest int
}

func numbers() []number {
	weight := func(i int) func(c *api.Config) *int { return func(c *api.Config) *int { return &c.Weights[i] } }
	return []number{
		{"Grant", func(c *api.Config) *int { return &c.Grant }, 1, 1000000},
		{"Weights[0]", weight(0), 1, 8},
		{"Weights[1]", weight(1), 1, 8},
		{"Weights[2]", weight(2), 1, 8},
		{"Weights[3]", weight(3), 1, 8},
		{"Quantum", func(c *api.Config) *int { return &c.Quantum }, 1000, 1000000},
		{"Age", func(c *api.Config) *int { return &c.Age }, 1, 60},
		{"Depth", func(c *api.Config) *int { return &c.Depth }, 1, 10000000},
		{"Rate", func(c *api.Config) *int { return &c.Rate }, 1, 1000000},
		{"Packets", func(c *api.Config) *int { return &c.Packets }, 1, 10000},
		{"Bytes", func(c *api.Config) *int { return &c.Bytes }, 1, 1000000},
		{"Margin", func(c *api.Config) *int { return &c.Margin }, 0, 1000},
		{"Hyst", func(c *api.Config) *int { return &c.Hyst }, 0, 1000},
		{"Hold", func(c *api.Config) *int { return &c.Hold }, 1, 100},
		{"Timeout", func(c *api.Config) *int { return &c.Timeout }, 1, 1000000},
		{"Memory", func(c *api.Config) *int { return &c.Memory }, 1, 1073741824},
	}
}

// modelFrames is what the frames of short modes or not, with pilots or not, have, counted by hand: bytes of the least field, symbols of 32APSK, symbols of QPSK.
func modelFrames(c api.Config) (least, cheap, dear int) {
	switch [2]bool{c.Short, c.Pilots} {
	case [2]bool{true, true}:
		return 374, 3402, 8370
	case [2]bool{true, false}:
		return 374, 3330, 8190
	case [2]bool{false, true}:
		return 1991, 13338, 33282
	}
	return 1991, 13050, 32490
}

// modelUp counts how often b must be taken, for numbers that are not below 1.
func modelUp(a, b int) int { return (a-1)/b + 1 }

// modelInRange asks the numbers and labels one by one.
func modelInRange(c api.Config) bool {
	for _, n := range numbers() {
		if at := *n.of(&c); at < n.least || at > n.greatest {
			return false
		}
	}
	if len(c.Labels) < 1 || len(c.Labels) > 8 {
		return false
	}
	for i, l := range c.Labels {
		six := l.Kind == 0 && len(l.Bytes) == 6
		three := l.Kind == 1 && len(l.Bytes) == 3
		if !six && !three || slices.Index(c.Labels, l) != i {
			return false
		}
	}
	return true
}

// model is what the tests hold the package against: the chapter's words, one behind the other.
func model(c api.Config) (Bounds, api.Errno) {
	if !modelInRange(c) {
		return Bounds{}, api.ErrConf
	}
	var b Bounds
	b.Least, b.Cheap, b.Dear = modelFrames(c)
	n, net := len(c.Labels), b.Least-17
	b.Largest = c.Bytes
	if b.Largest > 65519 {
		b.Largest = 65519
	}
	b.Cap = c.Depth - b.Largest
	b.Sent = c.Age + 3
	b.Sent += 2 * 3 * n * c.Packets
	b.Sent += 2 * modelUp(3*n*c.Bytes, net)
	b.Frames = b.Sent + 4
	b.Frames += (modelUp(n*c.Bytes, c.Rate) + n*c.Packets) * (c.Grant/b.Cheap + 2)
	b.Frames += 2 * modelUp(n*c.Bytes, net)
	b.Frames += 6 * n * c.Packets
	b.Ticks = modelUp(b.Dear, c.Grant)
	wrong := c.Depth < 2*b.Largest ||
		c.Memory < 3*b.Largest+48 ||
		b.Sent > 250 ||
		modelUp(c.Rate, net)*b.Dear >= c.Grant
	if wrong {
		return Bounds{}, api.ErrConf
	}
	return b, api.OK
}

// answers asks that both calls tell the same of a configuration.
func answers(t *testing.T, c api.Config, want Bounds, e api.Errno) {
	t.Helper()
	if got := Check(c); got != e {
		t.Errorf("Check(%+v): %d, want %d", c, got, e)
	}
	if b, got := Of(c); b != want || got != e {
		t.Errorf("Of(%+v): %+v, %d, want %+v, %d", c, b, got, want, e)
	}
}

// likeModel asks that both calls tell what the model does.
func likeModel(t *testing.T, c api.Config) {
	t.Helper()
	want, e := model(c)
	answers(t, c, want, e)
}

// may asks that a configuration may be.
func may(t *testing.T, c api.Config) {
	t.Helper()
	if e := Check(c); e != api.OK {
		t.Errorf("Check(%+v): %d, want OK", c, e)
	}
	likeModel(t, c)
}

// mayNot asks that it may not be.
func mayNot(t *testing.T, c api.Config) {
	t.Helper()
	answers(t, c, Bounds{}, api.ErrConf)
}

// edge asks that a configuration may be, and that it may not be with one turn.
func edge(t *testing.T, c api.Config, turn func(c *api.Config)) {
	t.Helper()
	may(t, c)
	mayNot(t, with(c, turn))
}

// kinds tells a configuration in all four kinds of frames.
func kinds(c api.Config) []api.Config {
	var out []api.Config
	for _, short := range []bool{true, false} {
		for _, pilots := range []bool{true, false} {
			out = append(out, with(c, func(c *api.Config) { c.Short, c.Pilots = short, pilots }))
		}
	}
	return out
}

// The chapter's examples, one row each.
func TestExamples(t *testing.T) {
	c := example()
	answers(t, c, Bounds{Least: 374, Cheap: 3402, Dear: 8370, Largest: 2000, Cap: 2000, Sent: 139, Frames: 303, Ticks: 1}, api.OK)
	mayNot(t, with(c, func(c *api.Config) { c.Depth = 3999 }))
	mayNot(t, with(c, func(c *api.Config) { c.Memory = 6047 }))
	may(t, with(c, func(c *api.Config) { c.Age = 60 }))
	mayNot(t, with(c, func(c *api.Config) { c.Grant = 8370 }))
	mayNot(t, with(c, func(c *api.Config) { c.Age = 61 }))
}

// P6.2: short and not, with pilots and without, reckoned by hand; 104400 are 8 times 13050.
func TestOfEachKindOfFrames(t *testing.T) {
	c := example()
	c.Grant = 104400
	of := kinds(c)
	answers(t, of[0], Bounds{374, 3402, 8370, 2000, 2000, 139, 139 + 22*32 + 72 + 4, 1}, api.OK)
	answers(t, of[1], Bounds{374, 3330, 8190, 2000, 2000, 139, 139 + 22*33 + 72 + 4, 1}, api.OK)
	answers(t, of[2], Bounds{1991, 13338, 33282, 2000, 2000, 85, 85 + 22*9 + 54 + 4, 1}, api.OK)
	answers(t, of[3], Bounds{1991, 13050, 32490, 2000, 2000, 85, 85 + 22*10 + 54 + 4, 1}, api.OK)
}

// P6.2: quotients that leave nothing, and one byte more: 357 bytes of packets are in the least short field.
func TestQuotientsOfBounds(t *testing.T) {
	c := example()
	c.Labels, c.Packets, c.Bytes, c.Rate = names(1), 1, 357, 119
	answers(t, c, Bounds{374, 3402, 8370, 357, 3643, 35, 35 + 4*4 + 8 + 4, 1}, api.OK)
	c.Bytes = 358
	answers(t, c, Bounds{374, 3402, 8370, 358, 3642, 37, 37 + 5*4 + 10 + 4, 1}, api.OK)
	// 3 times 119 are 357, too: there it is Sent alone that is one step more.
	c.Bytes, c.Rate = 119, 120
	answers(t, c, Bounds{374, 3402, 8370, 119, 3881, 31, 31 + 2*4 + 8 + 4, 1}, api.OK)
	c.Bytes = 120
	answers(t, c, Bounds{374, 3402, 8370, 120, 3880, 33, 33 + 2*4 + 8 + 4, 1}, api.OK)
}

// P6.2: a tick's frames, downwards: at a multiple of the cheapest frame, and one symbol below it.
func TestFramesOfGrant(t *testing.T) {
	c := example()
	c.Grant = 5 * 3402
	answers(t, c, Bounds{374, 3402, 8370, 2000, 2000, 139, 139 + 22*7 + 72 + 4, 1}, api.OK)
	c.Grant--
	answers(t, c, Bounds{374, 3402, 8370, 2000, 2000, 139, 139 + 22*6 + 72 + 4, 1}, api.OK)
}

// P6.1: each number one below its range, one above it, far below and far above.
func TestNumbersOutOfRange(t *testing.T) {
	for _, base := range []api.Config{example(), roomy()} {
		may(t, base)
		for _, n := range numbers() {
			for _, to := range []int{n.least - 1, n.greatest + 1, -1, -n.greatest, math.MinInt, math.MaxInt, math.MaxInt - 1, math.MaxInt32 + 1} {
				mayNot(t, with(base, func(c *api.Config) { *n.of(c) = to }))
			}
		}
	}
}

// P6.1: each number at its least and at its greatest, where no other number forbids it.
func TestNumbersInRange(t *testing.T) {
	forbidden := " least of Grant, least of Depth, least of Memory, greatest of Rate, greatest of Packets, greatest of Bytes,"
	for _, base := range kinds(roomy()) {
		for _, n := range numbers() {
			for name, to := range map[string]int{"least": n.least, "greatest": n.greatest} {
				c := with(base, func(c *api.Config) { *n.of(c) = to })
				if strings.Contains(forbidden, " "+name+" of "+n.name+",") {
					mayNot(t, c)
				} else {
					may(t, c)
				}
			}
		}
	}
}

// P6.1: the ends of the ranges themselves, some of which no configuration that may be gets to.
func TestRangesAreTheChapters(t *testing.T) {
	c := with(roomy(), func(c *api.Config) { c.Labels = names(5) })
	var want []span
	for _, n := range numbers() {
		want = append(want, span{*n.of(&c), n.least, n.greatest})
	}
	want = append(want, span{5, 1, 8})
	if got := ranges(c); !slices.Equal(got[:], want) {
		t.Errorf("%v, want %v", got, want)
	}
}

// P6.1: numbers of which others stand in the way of their range: as near to its ends as they get.
func TestNumbersAsFarAsOthersLet(t *testing.T) {
	c := roomy()
	edge(t, with(c, func(c *api.Config) { c.Grant = 32491 }), func(c *api.Config) { c.Grant-- })
	edge(t, with(c, func(c *api.Config) { c.Depth = 2 }), func(c *api.Config) { c.Depth-- })
	edge(t, with(c, func(c *api.Config) { c.Memory = 51 }), func(c *api.Config) { c.Memory-- })
	edge(t, with(c, func(c *api.Config) { c.Rate = 30 * 1974 }), func(c *api.Config) { c.Rate++ })
	edge(t, with(c, func(c *api.Config) { c.Packets = 40 }), func(c *api.Config) { c.Packets++ })
	edge(t, with(c, func(c *api.Config) { c.Bytes = 40 * 1974 }), func(c *api.Config) { c.Bytes++ })
}

// P6.1: each number, near each of its ends and between, is as the model says of it.
func TestEachNumberAlone(t *testing.T) {
	bases := slices.Concat(kinds(roomy()), kinds(example()), kinds(with(example(), func(c *api.Config) { c.Grant = 50000 })))
	for _, base := range bases {
		for _, n := range numbers() {
			for _, to := range []int{n.least - 2, n.least - 1, n.least, n.least + 1, (n.least + n.greatest) / 2, n.greatest - 1, n.greatest, n.greatest + 1, n.greatest + 2, 0} {
				likeModel(t, with(base, func(c *api.Config) { *n.of(c) = to }))
			}
		}
	}
}

// P6.1: the four weights are asked each on its own, whatever the others are.
func TestWeights(t *testing.T) {
	c := example()
	for _, good := range [][4]int{{1, 2, 3, 4}, {8, 8, 8, 8}, {8, 7, 6, 5}, {1, 8, 1, 8}} {
		may(t, with(c, func(c *api.Config) { c.Weights = good }))
	}
	for _, bad := range [][4]int{{}, {0, 1, 1, 1}, {1, 1, 1, 0}, {9, 9, 9, 9}, {8, 8, 8, 9}, {1, 9, 1, 0}, {-1, 2, 3, 4}} {
		mayNot(t, with(c, func(c *api.Config) { c.Weights = bad }))
	}
}

// P6.1 and R4: no labels, as a nil list and as an empty one; one, eight and nine.
func TestHowManyLabels(t *testing.T) {
	c := roomy()
	for n := range 12 {
		d := with(c, func(c *api.Config) { c.Labels = names(n) })
		if n >= 1 && n <= 8 {
			may(t, d)
		} else {
			mayNot(t, d)
		}
	}
	mayNot(t, with(c, func(c *api.Config) { c.Labels = nil }))
	mayNot(t, with(c, func(c *api.Config) { c.Labels = []api.Label{} }))
}

// P6.1: labels of each kind, with all lengths about theirs; among others, at each place.
func TestWhichLabels(t *testing.T) {
	for _, kind := range []int{api.LabelSix, api.LabelThree, api.LabelAll, api.LabelSame, 4, -1, -2, 256, 257, math.MaxInt, math.MinInt} {
		for size := range 14 {
			l := api.Label{Kind: kind, Bytes: strings.Repeat("x", size)}
			good := kind == api.LabelSix && size == 6 || kind == api.LabelThree && size == 3
			for n := 1; n <= 4; n++ {
				for at := range n {
					c := with(roomy(), func(c *api.Config) {
						c.Labels = names(n)
						c.Labels[at] = l
					})
					if good {
						may(t, c)
					} else {
						mayNot(t, c)
					}
				}
			}
		}
	}
}

// P6.1: a label's bytes count, not its letters; and any byte may be one.
func TestBytesOfLabels(t *testing.T) {
	one := func(kind int, bytes string) api.Config {
		return with(roomy(), func(c *api.Config) { c.Labels = []api.Label{{Kind: kind, Bytes: bytes}} })
	}
	may(t, one(api.LabelSix, "ééé"))
	mayNot(t, one(api.LabelSix, "éééééé"))
	mayNot(t, one(api.LabelThree, "ééé"))
	may(t, one(api.LabelThree, "\x00\x00\x00"))
	may(t, one(api.LabelSix, "\xff\xff\xff\xff\xff\xff"))
	mayNot(t, one(api.LabelSix, strings.Repeat("a", 1<<16+6)))
	mayNot(t, one(api.LabelThree, strings.Repeat("a", 1<<8+3)))
}

// P6.1: two labels that are alike, at all places of all lists; and those that are nearly so.
func TestLabelsAlike(t *testing.T) {
	for n := 2; n <= 8; n++ {
		for a := range n {
			for b := range a {
				mayNot(t, with(roomy(), func(c *api.Config) {
					c.Labels = names(n)
					c.Labels[a] = c.Labels[b]
				}))
			}
		}
	}
	may(t, with(roomy(), func(c *api.Config) {
		c.Labels = []api.Label{{Kind: api.LabelSix, Bytes: "abcabc"}, {Kind: api.LabelThree, Bytes: "abc"}, {Kind: api.LabelThree, Bytes: "abC"}, {Kind: api.LabelSix, Bytes: "abcabd"}}
	}))
}

// P6.2: Bytes below MaxPacket, at it and above it: the largest packet grows no more, the frames do.
func TestLargest(t *testing.T) {
	for _, x := range []struct{ bytes, largest int }{{1, 1}, {65518, 65518}, {65519, 65519}, {65520, 65519}, {65535, 65519}, {65536, 65519}, {78960, 65519}} {
		c := with(roomy(), func(c *api.Config) { c.Bytes = x.bytes })
		may(t, c)
		if b, _ := Of(c); b.Largest != x.largest || b.Cap != 10000000-x.largest || b.Sent != 1+3+2*(3+modelUp(3*x.bytes, 1974)) {
			t.Errorf("%d bytes: %+v", x.bytes, b)
		}
	}
}

// P6.1: Depth at twice the largest packet, and Memory at 3 times that with what is beside it, and each one below.
func TestRoomForTheLargest(t *testing.T) {
	for _, bytes := range []int{1, 2, 3, 1000, 65518, 65519, 65520, 78960} {
		largest := min(bytes, 65519)
		c := with(roomy(), func(c *api.Config) {
			c.Bytes, c.Depth, c.Memory = bytes, 2*largest, 3*(largest+16)
		})
		may(t, c)
		if b, _ := Of(c); b.Cap != largest {
			t.Errorf("%d bytes: Cap %d", bytes, b.Cap)
		}
		edge(t, c, func(c *api.Config) { c.Depth-- })
		edge(t, c, func(c *api.Config) { c.Memory-- })
	}
}

// P6.1: Sent at 250, and above it by each of what it is made of.
func TestSentAtItsGreatest(t *testing.T) {
	// 59 and 3, and twice: 90 and, of 3 times 1974 bytes, 3; with a byte more, 4.
	d := with(roomy(), func(c *api.Config) { c.Labels, c.Packets, c.Bytes, c.Age = names(1), 30, 1974, 59 })
	if b, _ := Of(d); b.Sent != 248 {
		t.Errorf("Sent %d", b.Sent)
	}
	d.Bytes = 1975
	if b, _ := Of(d); b.Sent != 250 {
		t.Errorf("Sent %d", b.Sent)
	}
	edge(t, d, func(c *api.Config) { c.Age++ })
	edge(t, d, func(c *api.Config) { c.Packets++ })
	edge(t, d, func(c *api.Config) { c.Bytes = 2633 })
	edge(t, d, func(c *api.Config) { c.Labels = names(2) })
	edge(t, d, func(c *api.Config) { c.Short = true })
	may(t, with(d, func(c *api.Config) { c.Bytes = 2632 }))
}

// P6.1: what voice may take of a tick, one symbol below Grant, at it, and one more.
func TestVoiceBelowGrant(t *testing.T) {
	for _, c := range kinds(roomy()) {
		least, _, dear := modelFrames(c)
		for times := 1; times*dear < 1000000; times++ {
			for _, rate := range []int{(times-1)*(least-17) + 1, times * (least - 17)} {
				c.Rate = rate
				c.Grant = times*dear + 1
				edge(t, c, func(c *api.Config) { c.Grant-- })
				mayNot(t, with(c, func(c *api.Config) { c.Grant -= 2 }))
			}
			edge(t, c, func(c *api.Config) { c.Rate++ })
		}
	}
}

// P6.1 and R1: numbers so great that what is reckoned of them would come round to what may be.
func TestNothingComesRound(t *testing.T) {
	c := with(roomy(), func(c *api.Config) { c.Labels = names(4) })
	for _, to := range []int{1 << 61, 1 << 62, 1<<62 + 1, 1<<60 + 1, 1<<32 + 1, math.MaxInt/3 + 1, math.MinInt + 1} {
		for _, n := range numbers() {
			mayNot(t, with(c, func(c *api.Config) { *n.of(c) = to }))
		}
		mayNot(t, with(c, func(c *api.Config) { c.Packets, c.Bytes = to, to }))
		mayNot(t, with(c, func(c *api.Config) { c.Depth, c.Bytes, c.Memory = math.MaxInt, to, math.MaxInt }))
		mayNot(t, with(c, func(c *api.Config) { c.Rate, c.Grant = to, math.MaxInt }))
	}
	mayNot(t, api.Config{})
	all := func(to int) api.Config {
		return with(c, func(c *api.Config) {
			for _, n := range numbers() {
				*n.of(c) = to
			}
		})
	}
	for _, to := range []int{math.MinInt, -1, 0, 1, 1000, math.MaxInt} {
		mayNot(t, all(to))
	}
}

// likely makes a configuration of chance that may well be.
func likely(chance *rand.Rand) api.Config {
	to := func(n int) int { return 1 + chance.Intn(n)>>chance.Intn(6) }
	c := api.Config{
		Short: chance.Intn(2) == 0, Pilots: chance.Intn(2) == 0, Grant: min(to(1000000)+8000, 1000000), Quantum: 1000 + chance.Intn(999001),
		Age: to(60), Packets: to(20), Bytes: to(80000), Margin: chance.Intn(1001), Hyst: chance.Intn(1001),
		Hold: to(100), Timeout: to(1000000), Labels: names(to(8)),
	}
	c.Weights = [4]int{to(8), to(8), to(8), to(8)}
	c.Rate = to(c.Grant / 20)
	c.Depth = c.Bytes*2 + chance.Intn(1000) - chance.Intn(30)
	c.Memory = c.Bytes*3 + 48 + chance.Intn(1000) - chance.Intn(30)
	return c
}

// P6.1 and P6.2: configurations of chance, of which many may be and many may not.
func TestOfManyConfigurations(t *testing.T) {
	chance := rand.New(rand.NewSource(6))
	good := 0
	const many = 20000
	for range many {
		c := likely(chance)
		likeModel(t, c)
		if Check(c) == api.OK {
			good++
		}
	}
	if good < many/10 || good > many*9/10 {
		t.Errorf("%d of %d may be", good, many)
	}
}

// P6.3: whoever grants more waits no longer for a frame, and may be, too.
func TestMoreGranted(t *testing.T) {
	chance := rand.New(rand.NewSource(7))
	for range 5000 {
		c := likely(chance)
		was, e := Of(c)
		if e != api.OK {
			continue
		}
		for _, more := range []int{1, 2, 100, 3402, 8370, 40000, 1000000 - c.Grant} {
			d := with(c, func(c *api.Config) { c.Grant = min(c.Grant+more, 1000000) })
			is, e := Of(d)
			if e != api.OK || is.Ticks > was.Ticks || is.Sent != was.Sent {
				t.Fatalf("%+v: %+v, %d; with a Grant of %d less: %+v", d, is, e, more, was)
			}
		}
	}
}

// P6.2 and P6.3: each configuration that may be grants more than its dearest frame, so that Ticks is 1; how it is reckoned is asked of what lies below, too.
func TestTicksOfGrant(t *testing.T) {
	for _, c := range kinds(roomy()) {
		_, _, dear := modelFrames(c)
		was := dear
		for _, x := range []struct{ grant, ticks int }{{1, dear}, {2, dear / 2}, {dear/2 - 1, 3}, {dear / 2, 2}, {dear - 1, 2}, {dear, 1}, {dear + 1, 1}, {1000000, 1}} {
			c.Grant = x.grant
			is := promised(c).Ticks
			if is != x.ticks || is > was {
				t.Errorf("a Grant of %d: %d ticks, want %d", x.grant, is, x.ticks)
			}
			was = is
		}
	}
}

// P6.3: queues that are smaller, by packets, by bytes or by both, need no more frames, and may be, too.
func TestSmallerQueues(t *testing.T) {
	chance := rand.New(rand.NewSource(8))
	for range 5000 {
		c := likely(chance)
		was, e := Of(c)
		if e != api.OK {
			continue
		}
		for range 6 {
			d := with(c, func(c *api.Config) {
				c.Packets -= chance.Intn(c.Packets)
				c.Bytes -= chance.Intn(c.Bytes)
			})
			is, e := Of(d)
			if e != api.OK || is.Frames > was.Frames || is.Sent > was.Sent {
				t.Fatalf("%+v: %+v, %d; with greater queues: %+v", d, is, e, was)
			}
		}
	}
}

// P6.3: all that is promised is above 0, where everything is as small as it may be, too.
func TestAllAboveZero(t *testing.T) {
	above := func(c api.Config) {
		t.Helper()
		b, e := Of(c)
		if least := min(b.Least, b.Cheap, b.Dear, b.Largest, b.Cap, b.Sent, b.Frames, b.Ticks); e == api.OK && least < 1 {
			t.Errorf("%+v: %+v", c, b)
		}
	}
	for _, c := range kinds(roomy()) {
		_, _, dear := modelFrames(c)
		c.Depth, c.Memory, c.Grant = 2, 51, dear+1
		may(t, c)
		above(c)
	}
	chance := rand.New(rand.NewSource(9))
	for range 5000 {
		above(likely(chance))
	}
}

// R5: labels that are handed in stay as they are, as does what is behind them, and they are not kept.
func TestLabelsStayAsTheyAre(t *testing.T) {
	for _, n := range []int{1, 2, 3} {
		c := with(roomy(), func(c *api.Config) { c.Labels = append(names(n), names(1)...)[:n] })
		was := slices.Clone(c.Labels[:n+1])
		likeModel(t, c)
		if !slices.Equal(c.Labels[:n+1], was) {
			t.Errorf("%v became %v", was, c.Labels[:n+1])
		}
		c.Labels[0].Kind = api.LabelAll
		mayNot(t, c)
	}
}

// R6: what a call answers does not hang on the calls ahead of it.
func TestSameAgain(t *testing.T) {
	for range 3 {
		may(t, example())
		mayNot(t, api.Config{})
		may(t, roomy())
		mayNot(t, with(example(), func(c *api.Config) { c.Labels = append(c.Labels, c.Labels[0]) }))
	}
}

// P6.1 to P6.3: whatever numbers and labels there are.
func FuzzConfigurations(f *testing.F) {
	f.Add(true, true, 10000, 4000, 300, 4, 2000, 6048, 20, 0, "abcdef", 1, "abc")
	f.Add(false, true, 50000, 6000, 900, 5, 3000, 10000, 30, 0, "abcdef", 0, "abcdef")
	f.Add(false, false, 1<<62, -1, 0, math.MaxInt, math.MinInt, 1, 61, 2, "", 3, "")
	f.Fuzz(func(t *testing.T, short, pilots bool, grant, depth, rate, packets, bytes, memory, age, kindA int, a string, kindB int, b string) {
		c := with(example(), func(c *api.Config) {
			c.Short, c.Pilots, c.Grant, c.Depth, c.Rate = short, pilots, grant, depth, rate
			c.Packets, c.Bytes, c.Memory, c.Age = packets, bytes, memory, age
			c.Labels = []api.Label{{Kind: kindA, Bytes: a}, {Kind: kindB, Bytes: b}}
		})
		likeModel(t, c)
	})
}

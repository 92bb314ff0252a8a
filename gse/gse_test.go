package gse

import (
	"math"
	"math/rand"
	"slices"
	"strings"
	"testing"

	"aerial/api"
)

// Labels that may be.
var (
	six   = api.Label{Kind: api.LabelSix, Bytes: "abcdef"}
	three = api.Label{Kind: api.LabelThree, Bytes: "abc"}
	all   = api.Label{Kind: api.LabelAll}
	same  = api.Label{Kind: api.LabelSame}
)

// labels tells those that may be, of each Kind.
func labels() []api.Label {
	return []api.Label{
		six, three, all, same,
		{Kind: api.LabelSix, Bytes: "\x00\x00\x00\x00\x00\x00"},
		{Kind: api.LabelSix, Bytes: "\xff\xff\xff\xff\xff\xff"},
		{Kind: api.LabelThree, Bytes: "\x00\x00\x00"},
		{Kind: api.LabelThree, Bytes: "\xff\xfe\x80"},
	}
}

// wrongLabels tells labels that may not be; the first one of them is zero.
func wrongLabels() []api.Label {
	out := []api.Label{
		{},
		{Kind: api.LabelSix, Bytes: "abcde"},
		{Kind: api.LabelSix, Bytes: "abcdefg"},
		{Kind: api.LabelSix, Bytes: "abc"},
		{Kind: api.LabelThree},
		{Kind: api.LabelThree, Bytes: "ab"},
		{Kind: api.LabelThree, Bytes: "abcd"},
		{Kind: api.LabelThree, Bytes: "abcdef"},
		{Kind: api.LabelAll, Bytes: "a"},
		{Kind: api.LabelSame, Bytes: "abc"},
		{Kind: api.LabelSix, Bytes: strings.Repeat("a", 5000)},
	}
	for _, kind := range []int{-1, -4, 4, 5, 256, 1 << 32, math.MaxInt, math.MinInt} {
		out = append(out, api.Label{Kind: kind}, api.Label{Kind: kind, Bytes: "abc"}, api.Label{Kind: kind, Bytes: "abcdef"})
	}
	return out
}

// numbers tells some at the edges of one and of two bytes, and far from them.
func numbers() []int {
	return []int{
		0, 1, 127, 128, 254, 255, 256, 257, 65534, 65535, 65536, 65537, 1 << 24, 1 << 32, 1<<32 + 1, math.MaxInt - 1, math.MaxInt,
		-1, -2, -255, -256, -65535, -65536, -1 << 32, math.MinInt + 1, math.MinInt,
	}
}

// sums tells one that may be, and some that may not.
func sums() []string {
	return []string{"", "\x01\x02\x03\x04", "abc", "abcde", "\x00", "\x00\x00\x00\x00", "ab", strings.Repeat("a", 5000)}
}

// kinds tells a piece of each kind that has all its fields, by its name.
func kinds() map[string]api.Piece {
	return map[string]api.Piece{
		"whole":   {Start: true, End: true, Type: 2048, Label: three, Data: "hi"},
		"first":   {Start: true, Id: 5, Total: 300, Type: 2049, Label: six, Data: "hi"},
		"between": {Id: 5, Data: "hi"},
		"last":    {End: true, Id: 5, Data: "hi", Sum: "\x01\x02\x03\x04"},
	}
}

// modelLabel tells whether a label may be.
func modelLabel(l api.Label) bool {
	return l.Kind == 0 && len(l.Bytes) == 6 || l.Kind == 1 && len(l.Bytes) == 3 || (l.Kind == 2 || l.Kind == 3) && l.Bytes == ""
}

// two tells a number in two bytes.
func two(n int) string { return string([]byte{byte(n / 256), byte(n % 256)}) }

// modelEncode is the chapter's table, row by row: what a piece's bytes are, by definition.
func modelEncode(p api.Piece) (string, api.Errno) {
	id := 0 <= p.Id && p.Id <= 255
	named := 0 <= p.Type && p.Type <= 65535 && modelLabel(p.Label)
	nameless := p.Type == 0 && p.Label == api.Label{}
	one := string([]byte{byte(p.Id)})
	var may bool
	var bits int
	var behind string
	switch {
	case p.Start && p.End:
		may = named && p.Id == 0 && p.Total == 0 && p.Sum == ""
		bits, behind = 0xc000+p.Label.Kind%4*0x1000, two(p.Type)+p.Label.Bytes+p.Data
	case p.Start:
		may = named && id && 0 <= p.Total && p.Total <= 65535 && p.Sum == ""
		bits, behind = 0x8000+p.Label.Kind%4*0x1000, one+two(p.Total)+two(p.Type)+p.Label.Bytes+p.Data
	case p.End:
		may = nameless && id && p.Total == 0 && len(p.Sum) == 4
		bits, behind = 0x7000, one+p.Data+p.Sum
	default:
		may = nameless && id && p.Total == 0 && p.Sum == ""
		bits, behind = 0x3000, one+p.Data
	}
	switch {
	case !may:
		return "", 2
	case len(behind) > 4095:
		return "", 3
	}
	return two(bits+len(behind)) + behind, 0
}

// modelDecode is P8.2, sentence by sentence.
func modelDecode(s string) (api.Piece, int, api.Errno) {
	if s == "" || s[0] < 16 {
		return api.Piece{}, 0, 5
	}
	if len(s) == 1 {
		return api.Piece{}, 0, 4
	}
	told := int(s[0]%16)*256 + int(s[1])
	kind := int(s[0] / 16 % 4)
	p := api.Piece{Start: s[0] >= 128, End: s[0]/64%2 == 1}
	size := []int{6, 3, 0, 0}[kind]
	need := map[[2]bool]int{{true, true}: 2 + size, {true, false}: 5 + size, {false, false}: 1, {false, true}: 5}[[2]bool{p.Start, p.End}]
	if len(s) < 2+told || !p.Start && kind != 3 || told < need {
		return api.Piece{}, 0, 4
	}
	b := s[2 : 2+told]
	number := func(at int) int { return int(b[at])*256 + int(b[at+1]) }
	switch {
	case p.Start && p.End:
		p.Type, p.Label, p.Data = number(0), api.Label{Kind: kind, Bytes: b[2 : 2+size]}, b[2+size:]
	case p.Start:
		p.Id, p.Total, p.Type, p.Label, p.Data = int(b[0]), number(1), number(3), api.Label{Kind: kind, Bytes: b[5 : 5+size]}, b[5+size:]
	case p.End:
		p.Id, p.Data, p.Sum = int(b[0]), b[1:told-4], b[told-4:]
	default:
		p.Id, p.Data = int(b[0]), b[1:]
	}
	return p, 2 + told, 0
}

// modelAll is P8.3.
func modelAll(s string) ([]api.Piece, api.Errno) {
	p, n, e := modelDecode(s)
	if e == 5 {
		return nil, 0
	}
	if e != 0 {
		return nil, e
	}
	behind, e := modelAll(s[n:])
	return append([]api.Piece{p}, behind...), e
}

// short tells a piece in few signs, for a test's report.
func short(p api.Piece) api.Piece {
	p.Data, p.Sum, p.Label.Bytes = head(p.Data), head(p.Sum), head(p.Label.Bytes)
	return p
}

func head(s string) string { return s[:min(len(s), 20)] }

// encodes asks Check, Size and Encode of a piece.
func encodes(t *testing.T, p api.Piece, want string, e api.Errno) {
	t.Helper()
	if is := Check(p); is != e {
		t.Errorf("Check(%#v), %d bytes of data: %d, want %d", short(p), len(p.Data), is, e)
	}
	if n, is := Size(p); n != len(want) || is != e {
		t.Errorf("Size(%#v), %d bytes of data: %d, %d, want %d, %d", short(p), len(p.Data), n, is, len(want), e)
	}
	if s, is := Encode(p); s != want || is != e {
		t.Errorf("Encode(%#v), %d bytes of data: %x, %d, want %x, %d", short(p), len(p.Data), head(s), is, head(want), e)
	}
}

// encodesAsModel asks the same of the model; it tells the bytes.
func encodesAsModel(t *testing.T, p api.Piece) string {
	t.Helper()
	s, e := modelEncode(p)
	encodes(t, p, s, e)
	return s
}

// decodes asks Decode of some bytes.
func decodes(t *testing.T, s string, want api.Piece, took int, e api.Errno) {
	t.Helper()
	if p, n, is := Decode(s); p != want || n != took || is != e {
		t.Errorf("Decode(%x), %d bytes: %#v, %d, %d, want %#v, %d, %d", head(s), len(s), short(p), n, is, short(want), took, e)
	}
}

// decodesAsModel asks the same of the model, and that what was taken, laid again, is the same bytes.
func decodesAsModel(t *testing.T, s string) {
	t.Helper()
	p, n, e := modelDecode(s)
	decodes(t, s, p, n, e)
	if e == 0 {
		encodes(t, p, s[:n], api.OK)
	}
}

// tells asks All of some bytes.
func tells(t *testing.T, s string, want []api.Piece, e api.Errno) {
	t.Helper()
	if got, is := All(s); !slices.Equal(got, want) || is != e {
		t.Errorf("All(%x), %d bytes: %d pieces, %d, want %d, %d", head(s), len(s), len(got), is, len(want), e)
	}
}

// tellsAsModel asks the same of the model.
func tellsAsModel(t *testing.T, s string) {
	t.Helper()
	want, e := modelAll(s)
	tells(t, s, want, e)
}

// The chapter's examples, one row each.
func TestExamples(t *testing.T) {
	encodes(t, api.Piece{Start: true, End: true, Type: 2048, Label: three, Data: "hi"}, "\xd0\x07\x08\x00abchi", api.OK)
	encodes(t, api.Piece{Id: 5, Data: "h"}, "\x30\x02\x05h", api.OK)
	encodes(t, api.Piece{End: true, Id: 5, Sum: "\x01\x02\x03\x04"}, "\x70\x05\x05\x01\x02\x03\x04", api.OK)
	for s, e := range map[string]api.Errno{"": api.ErrNone, "\x00": api.ErrNone, "\x0f\xff\x01": api.ErrNone, "\x10": api.ErrForm, "\x40\x01\x05": api.ErrForm} {
		decodes(t, s, api.Piece{}, 0, e)
	}
}

// P8.1, P8.2: bytes that are written out here, of each kind, and of each Kind of a label.
func TestBytesOfKinds(t *testing.T) {
	for s, p := range map[string]api.Piece{
		"\xc0\x0a\x08\x01abcdefhi":                     {Start: true, End: true, Type: 2049, Label: six, Data: "hi"},
		"\xd0\x05\xff\xffabc":                          {Start: true, End: true, Type: 65535, Label: three},
		"\xe0\x03\x00\x00x":                            {Start: true, End: true, Label: all, Data: "x"},
		"\xf0\x02\x00\x01":                             {Start: true, End: true, Type: 1, Label: same},
		"\x80\x0d\x05\x01\x2c\x08\x01abcdefhi":         {Start: true, Id: 5, Total: 300, Type: 2049, Label: six, Data: "hi"},
		"\x90\x08\xff\xff\xff\x00\x00abc":              {Start: true, Id: 255, Total: 65535, Label: three},
		"\xa0\x06\x00\x00\x00\xff\xffx":                {Start: true, Type: 65535, Label: all, Data: "x"},
		"\xb0\x05\x80\x80\x00\x00\x80":                 {Start: true, Id: 128, Total: 32768, Type: 128, Label: same},
		"\x30\x01\x00":                                 {},
		"\x30\x04\xff\x00\xff\x00":                     {Id: 255, Data: "\x00\xff\x00"},
		"\x70\x05\x00\x00\x00\x00\x00":                 {End: true, Sum: "\x00\x00\x00\x00"},
		"\x70\x08\xffabc\xff\xfe\xfd\xfc":              {End: true, Id: 255, Data: "abc", Sum: "\xff\xfe\xfd\xfc"},
		"\x30\xff\x09" + strings.Repeat("d", 254):      {Id: 9, Data: strings.Repeat("d", 254)},
		"\x31\x00\x09" + strings.Repeat("d", 255):      {Id: 9, Data: strings.Repeat("d", 255)},
		"\x3f\xff\x09" + strings.Repeat("d", 4094):     {Id: 9, Data: strings.Repeat("d", 4094)},
		"\xff\xff\x08\x02" + strings.Repeat("d", 4093): {Start: true, End: true, Type: 2050, Label: same, Data: strings.Repeat("d", 4093)},
	} {
		encodes(t, p, s, api.OK)
		decodes(t, s, p, len(s), api.OK)
		tells(t, s, []api.Piece{p}, api.OK)
	}
}

// P8.1: each of the four kinds, with each label that may be, with no data, with as much as goes in, one byte fewer and one more.
func TestMostData(t *testing.T) {
	for name, p := range kinds() {
		for _, l := range labels() {
			most := map[string]int{"whole": 4093 - len(l.Bytes), "first": 4090 - len(l.Bytes), "between": 4094, "last": 4090}[name]
			if p.Start {
				p.Label = l
			}
			for _, n := range []int{0, 1, most - 1, most, most + 1, most + 2, 4094, 4095, 4096, 8192, 65519, 1 << 20} {
				p.Data = strings.Repeat("d", n)
				want := api.OK
				if n > most {
					want = api.ErrLong
				}
				if e := Check(p); e != want {
					t.Errorf("%s, %#v, %d bytes: %d, want %d", name, l, n, e, want)
				}
				s := encodesAsModel(t, p)
				if n == most && len(s) != 4097 {
					t.Errorf("%s, %#v, %d bytes: %d in all, want 4097", name, l, n, len(s))
				}
				if want == api.OK {
					decodes(t, s, p, len(s), api.OK)
				}
			}
		}
	}
}

// P8.1: each number of each kind at its edges, below, above and far from them.
func TestNumbers(t *testing.T) {
	for name, p := range kinds() {
		for _, n := range numbers() {
			id, total, typ := p, p, p
			id.Id, total.Total, typ.Type = n, n, n
			for field, x := range map[string]struct {
				p     api.Piece
				named bool
				most  int
			}{
				"Id":    {id, name != "whole", 255},
				"Total": {total, name == "first", 65535},
				"Type":  {typ, name == "whole" || name == "first", 65535},
			} {
				want := api.ErrArg
				if n == 0 || x.named && 0 < n && n <= x.most {
					want = api.OK
				}
				if e := Check(x.p); e != want {
					t.Errorf("%s: %s %d: %d, want %d", name, field, n, e, want)
				}
				encodesAsModel(t, x.p)
			}
		}
	}
}

// P8.1: a Sum of four bytes, of three, of five, of none, and of others.
func TestSums(t *testing.T) {
	for name, p := range kinds() {
		for _, s := range sums() {
			p.Sum = s
			want := api.ErrArg
			if (name == "last") == (len(s) == 4) && (name == "last" || s == "") {
				want = api.OK
			}
			if e := Check(p); e != want {
				t.Errorf("%s: Sum %x: %d, want %d", name, head(s), e, want)
			}
			encodesAsModel(t, p)
		}
	}
}

// P8.1: a label that may not be, and one where there is none: not even one that has nothing but a Kind.
func TestLabels(t *testing.T) {
	for name, p := range kinds() {
		for _, l := range append(labels(), wrongLabels()...) {
			p.Label = l
			want := api.ErrArg
			if p.Start && modelLabel(l) || !p.Start && l == (api.Label{}) {
				want = api.OK
			}
			if e := Check(p); e != want {
				t.Errorf("%s: %#v: %d, want %d", name, short(p).Label, e, want)
			}
			encodesAsModel(t, p)
		}
	}
}

// P8.1: each field that is not named for a kind, and is not zero.
func TestFieldsThatAreNotNamed(t *testing.T) {
	wrong := map[string][]func(*api.Piece){
		"whole":   {func(p *api.Piece) { p.Id = 1 }, func(p *api.Piece) { p.Total = 1 }, func(p *api.Piece) { p.Sum = "abcd" }},
		"first":   {func(p *api.Piece) { p.Sum = "abcd" }},
		"between": {func(p *api.Piece) { p.Total = 1 }, func(p *api.Piece) { p.Type = 1 }, func(p *api.Piece) { p.Label = same }, func(p *api.Piece) { p.Label = six }, func(p *api.Piece) { p.Label.Bytes = "a" }, func(p *api.Piece) { p.Sum = "abcd" }},
		"last":    {func(p *api.Piece) { p.Total = 1 }, func(p *api.Piece) { p.Type = 1 }, func(p *api.Piece) { p.Label = same }, func(p *api.Piece) { p.Label = six }, func(p *api.Piece) { p.Label.Bytes = "a" }},
	}
	for name, p := range kinds() {
		encodesAsModel(t, p)
		if e := Check(p); e != api.OK {
			t.Errorf("%s: %d, want OK", name, e)
		}
		for _, spoil := range wrong[name] {
			bad := p
			spoil(&bad)
			encodes(t, bad, "", api.ErrArg)
		}
	}
}

// P8.1, R2: ErrArg comes ahead of ErrLong, whichever field may not be.
func TestWrongAndLong(t *testing.T) {
	for _, p := range kinds() {
		p.Data = strings.Repeat("d", 4096)
		encodes(t, p, "", api.ErrLong)
		for _, spoil := range []func(*api.Piece){
			func(p *api.Piece) { p.Id = -1 },
			func(p *api.Piece) { p.Id = 256 },
			func(p *api.Piece) { p.Total = -1 },
			func(p *api.Piece) { p.Total = 65536 },
			func(p *api.Piece) { p.Type = -1 },
			func(p *api.Piece) { p.Type = 65536 },
			func(p *api.Piece) { p.Label.Kind = 4 },
			func(p *api.Piece) { p.Label.Bytes += "a" },
			func(p *api.Piece) { p.Sum += "a" },
			func(p *api.Piece) { p.Sum = strings.Repeat("a", 5000) },
			func(p *api.Piece) { p.Label.Bytes = strings.Repeat("a", 5000) },
		} {
			bad := p
			spoil(&bad)
			encodes(t, bad, "", api.ErrArg)
			bad.Data = ""
			encodes(t, bad, "", api.ErrArg)
		}
	}
}

// P8.1: all of it, field against field, held against the table.
func TestAllFields(t *testing.T) {
	some := []int{0, 1, 255, 256, 65535, 65536, -1, math.MaxInt, math.MinInt}
	labels := []api.Label{{}, six, three, all, same, {Kind: 4}, {Kind: api.LabelSix, Bytes: "abcde"}}
	for kind := range 4 {
		for _, l := range labels {
			for _, sum := range []string{"", "abc", "abcd", "abcde"} {
				for i := range len(some) * len(some) * len(some) {
					p := api.Piece{Start: kind&1 != 0, End: kind&2 != 0, Label: l, Sum: sum, Data: "data"[:i%5]}
					p.Id, p.Total, p.Type = some[i%9], some[i/9%9], some[i/81]
					encodesAsModel(t, p)
				}
			}
		}
	}
}

// P8.2: nothing, and all of one byte.
func TestDecodeOfOneByte(t *testing.T) {
	decodes(t, "", api.Piece{}, 0, api.ErrNone)
	for b := range 256 {
		want := api.ErrForm
		if b < 16 {
			want = api.ErrNone
		}
		decodes(t, string([]byte{byte(b)}), api.Piece{}, 0, want)
	}
}

// P8.2: padding of one byte and of many, whatever stands in it.
func TestPadding(t *testing.T) {
	good, _ := Encode(api.Piece{Id: 5, Data: "hi"})
	for b := range 16 {
		first := string([]byte{byte(b)})
		for _, behind := range []string{"", "\x00", "\x01", "\xff", "\x00\x00\x00", good, "\x10", strings.Repeat("\xff", 5000)} {
			decodes(t, first+behind, api.Piece{}, 0, api.ErrNone)
			tells(t, first+behind, nil, api.OK)
			tells(t, good+first+behind, []api.Piece{{Id: 5, Data: "hi"}}, api.OK)
		}
	}
}

// P8.2: all first two bytes there are, with all that they tell behind them, with one byte fewer, with none, and with more.
func TestDecodeOfAllHeads(t *testing.T) {
	long := make([]byte, 5000)
	rand.New(rand.NewSource(8)).Read(long)
	behind := string(long)
	for n := range 1 << 16 {
		told := n % 4096
		for _, size := range []int{told, told - 1, 0, told + 1} {
			if size < 0 {
				continue
			}
			s := two(n) + behind[:size]
			if want, took, e := modelDecode(s); e != api.OK {
				decodes(t, s, want, took, e)
			} else if p, took, is := Decode(s); p != want || took != told+2 || is != api.OK {
				t.Errorf("Decode(%x), %d bytes: %#v, %d, %d, want %#v", head(s), len(s), short(p), took, is, short(want))
			}
		}
	}
}

// P8.2: bytes that are shorter than their first two tell, by one, by some and by all.
func TestShort(t *testing.T) {
	for name, p := range kinds() {
		s, _ := Encode(p)
		for n := 1; n < len(s); n++ {
			p, took, e := Decode(s[:n])
			if (p != api.Piece{}) || took != 0 || e != api.ErrForm {
				t.Errorf("%s: the first %d bytes: %#v, %d, %d, want ErrForm", name, n, p, took, e)
			}
			tells(t, s[:n], nil, api.ErrForm)
		}
	}
}

// P8.2: a piece that is no Start, with each of the bits of a label but 11.
func TestBitsOfNoLabel(t *testing.T) {
	for _, first := range []byte{0x10, 0x20, 0x40, 0x50, 0x60} {
		for _, size := range []byte{0, 1, 4, 5, 6, 20, 255} {
			s := string([]byte{first, size}) + strings.Repeat("d", 300)
			decodes(t, s, api.Piece{}, 0, api.ErrForm)
		}
	}
	decodes(t, "\x00\x05abcde", api.Piece{}, 0, api.ErrNone)
	decodes(t, "\x30\x05abcde", api.Piece{Id: 'a', Data: "bcde"}, 7, api.OK)
	decodes(t, "\x70\x05abcde", api.Piece{End: true, Id: 'a', Sum: "bcde"}, 7, api.OK)
}

// P8.2: each kind of a piece with one byte fewer than its fields need, with fewer still, and with just as many.
func TestFewestBytes(t *testing.T) {
	for first, need := range map[byte]int{
		0xc0: 8, 0xd0: 5, 0xe0: 2, 0xf0: 2,
		0x80: 11, 0x90: 8, 0xa0: 5, 0xb0: 5,
		0x30: 1, 0x70: 5,
	} {
		for told := range 20 {
			// Bytes behind it are not the piece's, so that they do not help.
			for _, behind := range []string{"", strings.Repeat("e", 30)} {
				s := string([]byte{first, byte(told)}) + strings.Repeat("d", told)
				p, n, e := Decode(s + behind)
				if told < need && (p != api.Piece{} || n != 0 || e != api.ErrForm) {
					t.Errorf("%x, %d bytes: %#v, %d, %d, want ErrForm", first, told, p, n, e)
				}
				if told >= need && (len(p.Data) != told-need || n != told+2 || e != api.OK) {
					t.Errorf("%x, %d bytes: %#v, %d, %d, want OK", first, told, p, n, e)
				}
				decodesAsModel(t, s+behind)
			}
		}
	}
}

// some makes a piece that may be, of any kind.
func some(chance *rand.Rand) api.Piece {
	text := func(n int) string {
		b := make([]byte, n)
		chance.Read(b)
		return string(b)
	}
	p := api.Piece{Start: chance.Intn(2) == 0, End: chance.Intn(2) == 0, Data: text(chance.Intn(30))}
	if !p.Start || !p.End {
		p.Id = chance.Intn(256)
	}
	if p.Start {
		p.Type = chance.Intn(65536)
		p.Label.Kind = chance.Intn(4)
		p.Label.Bytes = text([]int{6, 3, 0, 0}[p.Label.Kind])
	}
	if p.Start && !p.End {
		p.Total = chance.Intn(65536)
	}
	if p.End && !p.Start {
		p.Sum = text(4)
	}
	return p
}

// P8.3, P8.4: pieces one behind the other come back, whatever padding stands behind them.
func TestPiecesComeBack(t *testing.T) {
	chance := rand.New(rand.NewSource(84))
	for range 5000 {
		row := make([]api.Piece, chance.Intn(12))
		s := ""
		for i := range row {
			row[i] = some(chance)
			s += encodesAsModel(t, row[i])
		}
		tells(t, s, row, api.OK)
		padding := make([]byte, 1+chance.Intn(40))
		chance.Read(padding)
		padding[0] %= 16
		tells(t, s+string(padding), row, api.OK)
		for i, p := range row {
			got, n, e := Decode(s)
			if got != p || e != api.OK {
				t.Fatalf("piece %d: %#v, %d, want %#v", i, got, e, p)
			}
			s = s[n:]
		}
		decodes(t, s, api.Piece{}, 0, api.ErrNone)
	}
}

// P8.3: pieces as long as may be, and as short.
func TestLongAndShortPieces(t *testing.T) {
	var row []api.Piece
	s := ""
	for i := range 300 {
		p := api.Piece{Id: i % 256, Data: strings.Repeat("d", i%3*2047)}
		row = append(row, p)
		s += encodesAsModel(t, p)
	}
	tells(t, s, row, api.OK)
	tells(t, s[:len(s)-1], row[:299], api.ErrForm)
}

// P8.3: a broken one behind good ones, and good ones behind it, which do not count.
func TestBrokenOne(t *testing.T) {
	var row []api.Piece
	s := ""
	for _, name := range []string{"whole", "first", "between", "last"} {
		for _, broken := range []string{"\x10", "\x3f", "\x30\x02a", "\x30\x00", "\x40\x05abcde", "\x70\x04abcd", "\xc0\x07abcdefg", "\x80\x0aabcdefghij", "\xff\xff"} {
			tells(t, s+broken, row, api.ErrForm)
		}
		p := kinds()[name]
		row = append(row, p)
		s += encodesAsModel(t, p)
		tells(t, s, row, api.OK)
		tells(t, s+"\x30\x00"+s, row, api.ErrForm)
		tells(t, s+"\x00"+s, row, api.OK)
		tells(t, s+s, append(slices.Clone(row), row...), api.OK)
	}
}

// P8.3: a row of pieces, cut off at each byte.
func TestCutOff(t *testing.T) {
	chance := rand.New(rand.NewSource(83))
	s := ""
	for range 40 {
		s += encodesAsModel(t, some(chance))
	}
	for n := range len(s) + 1 {
		tellsAsModel(t, s[:n])
	}
}

// P8.4, R1: any bytes at all; what was taken, laid again, is the same bytes.
func TestAnyBytes(t *testing.T) {
	chance := rand.New(rand.NewSource(88))
	for range 100000 {
		b := make([]byte, chance.Intn(40))
		chance.Read(b)
		if len(b) > 1 && chance.Intn(4) > 0 {
			b[0] &= 0xf0
			b[1] %= byte(len(b))
		}
		decodesAsModel(t, string(b))
		tellsAsModel(t, string(b))
	}
}

// P8.4: good pieces of which a byte or two are turned.
func TestTurnedBytes(t *testing.T) {
	chance := rand.New(rand.NewSource(89))
	for range 30000 {
		s := ""
		for range 1 + chance.Intn(5) {
			x, _ := modelEncode(some(chance))
			s += x
		}
		b := []byte(s)
		for range 1 + chance.Intn(2) {
			b[chance.Intn(len(b))] ^= 1 << chance.Intn(8)
		}
		decodesAsModel(t, string(b))
		tellsAsModel(t, string(b))
	}
}

// P8.4: all rows of up to five bytes, out of those that mean something.
func TestAllShortRows(t *testing.T) {
	of := []byte{0x00, 0x01, 0x02, 0x05, 0x0f, 0x10, 0x30, 0x40, 0x70, 0x80, 0xb0, 0xc0, 0xe0, 0xf0, 0xff}
	var build func(row []byte)
	build = func(row []byte) {
		decodesAsModel(t, string(row))
		tellsAsModel(t, string(row))
		if len(row) == 5 {
			return
		}
		for _, b := range of {
			build(append(row[:len(row):len(row)], b))
		}
	}
	build(nil)
}

// R5, R6: answers are new, and the same again, whatever was asked between.
func TestAnswersAreNew(t *testing.T) {
	s := ""
	for _, name := range []string{"whole", "first", "between", "last"} {
		x, _ := Encode(kinds()[name])
		s += x
	}
	for _, end := range []string{"", "\x00\x00", "\x10"} {
		one, e := All(s + end)
		for i := range one {
			one[i] = api.Piece{Data: "another"}
		}
		_ = append(one[:1], api.Piece{Data: "another"})
		Decode("\x10")
		two, again := All(s + end)
		want, _ := modelAll(s + end)
		if !slices.Equal(two, want) || e != again {
			t.Errorf("%x: %#v, %d, then %d", end, two, e, again)
		}
	}
}

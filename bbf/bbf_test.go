package bbf

import (
	"encoding/hex"
	"math"
	"math/big"
	"math/rand"
	"strconv"
	"strings"
	"testing"

	"aerial/api"
)

// How many bytes the chapters 5 and 14 give a frame, by its mode's number from 1 on: of modes that are not short, and of those that are; 0 where there is none.
var (
	longFrames = [28]int{
		2001, 2676, 3216, 4026, 4836, 5380, 6051, 6456, 6730, 7184, 7274,
		4836, 5380, 6051, 6730, 7184, 7274,
		5380, 6051, 6456, 6730, 7184, 7274,
		6051, 6456, 6730, 7184, 7274,
	}
	shortFrames = [28]int{
		384, 654, 789, 879, 1194, 1329, 1464, 1554, 1644, 1779, 0,
		1194, 1329, 1464, 1644, 1779, 0,
		1329, 1464, 1554, 1644, 1779, 0,
		1464, 1554, 1644, 1779, 0,
	}
)

var (
	least    = api.Mode{Num: 1, Short: true}
	greatest = api.Mode{Num: 28, Pilots: true}
)

// frameSize tells how many bytes a frame of a mode has; 0 of what is no mode.
func frameSize(m api.Mode) int {
	switch {
	case m.Num < 1 || m.Num > 28:
		return 0
	case m.Short:
		return shortFrames[m.Num-1]
	}
	return longFrames[m.Num-1]
}

// most tells how many bytes go into a frame of a mode.
func most(m api.Mode) int { return frameSize(m) - 10 }

// ofNumber tells what may be a mode with that number.
func ofNumber(num int) []api.Mode {
	return []api.Mode{{Num: num}, {Num: num, Pilots: true}, {Num: num, Short: true}, {Num: num, Short: true, Pilots: true}}
}

// everyMode tells all modes that there are.
func everyMode() []api.Mode {
	var out []api.Mode
	for num := 1; num <= 28; num++ {
		for _, m := range ofNumber(num) {
			if frameSize(m) > 0 {
				out = append(out, m)
			}
		}
	}
	return out
}

// noModes tells some of what is none.
func noModes() []api.Mode {
	var out []api.Mode
	for _, num := range []int{0, 29, -1, -28, 30, 255, 256, 257, 1 << 16, 1<<32 + 1, math.MaxInt, math.MinInt, math.MinInt + 1} {
		out = append(out, ofNumber(num)...)
	}
	for _, num := range []int{11, 17, 23, 28} {
		out = append(out, api.Mode{Num: num, Short: true}, api.Mode{Num: num, Short: true, Pilots: true})
	}
	return out
}

// remainder is what the tests hold a header's sum against: what is left of its bits, with eight noughts behind them, divided by x^8 + x^7 + x^6 + x^4 + x^2 + 1.
func remainder(s string) byte {
	left := new(big.Int).SetBytes([]byte(s + "\x00"))
	for left.BitLen() > 8 {
		left.Xor(left, new(big.Int).Lsh(big.NewInt(0x1d5), uint(left.BitLen()-9)))
	}
	return byte(left.Int64())
}

// summed tells a header of nine bytes, with the right sum behind them.
func summed(nine string) string { return nine + string([]byte{remainder(nine)}) }

// two tells a number in two bytes.
func two(n int) string { return string([]byte{byte(n / 256), byte(n % 256)}) }

// headWith tells the bytes of a frame's header with that Dfl.
func headWith(dfl int) string { return summed("\x60\x00\x00\x00" + two(dfl) + "\x00\x00\x00") }

// packModel is what the tests hold Pack against.
func packModel(m api.Mode, field string) (string, api.Errno) {
	size := frameSize(m)
	if size == 0 {
		return "", 15
	}
	if len(field) > size-10 {
		return "", 3
	}
	return headWith(8*len(field)) + field + strings.Repeat("\x00", size-10-len(field)), 0
}

// unpackModel is what the tests hold Unpack against.
func unpackModel(m api.Mode, s string) (string, api.Errno) {
	size := frameSize(m)
	if size == 0 {
		return "", 15
	}
	if len(s) != size {
		return "", 4
	}
	if s[9] != remainder(s[:9]) {
		return "", 10
	}
	dfl := 256*int(s[4]) + int(s[5])
	if dfl > 58112 {
		return "", 2
	}
	if s[:4] != "\x60\x00\x00\x00" || s[6:9] != "\x00\x00\x00" || dfl%8 != 0 || dfl/8 > size-10 {
		return "", 4
	}
	return s[10 : 10+dfl/8], 0
}

// brief tells bytes, the first ones of many.
func brief(s string) string {
	shown := hex.EncodeToString([]byte(s[:min(24, len(s))]))
	if len(s) > 24 {
		return shown + ".. of " + strconv.Itoa(len(s)) + " bytes"
	}
	return shown
}

// packs asks for a field's frame; beside an error for nothing.
func packs(t *testing.T, m api.Mode, field, want string, wrong api.Errno) {
	t.Helper()
	if s, e := Pack(m, field); s != want || e != wrong {
		t.Errorf("Pack(%+v, %s): %s, %d, want %s, %d", m, brief(field), brief(s), e, brief(want), wrong)
	}
}

// unpacks asks for a frame's field; beside an error for nothing.
func unpacks(t *testing.T, m api.Mode, s, want string, wrong api.Errno) {
	t.Helper()
	if field, e := Unpack(m, s); field != want || e != wrong {
		t.Errorf("Unpack(%+v, %s): %s, %d, want %s, %d", m, brief(s), brief(field), e, brief(want), wrong)
	}
}

// refuses asks for an error of a frame, and for nothing beside it.
func refuses(t *testing.T, m api.Mode, s string, wrong api.Errno) {
	t.Helper()
	unpacks(t, m, s, "", wrong)
}

// fieldLikeModel asks all of a field: its frame, and that it comes back.
func fieldLikeModel(t *testing.T, m api.Mode, field string) {
	t.Helper()
	want, wrong := packModel(m, field)
	packs(t, m, field, want, wrong)
	if wrong == api.OK {
		unpacks(t, m, want, field, api.OK)
	}
}

// frameLikeModel asks what is in a frame.
func frameLikeModel(t *testing.T, m api.Mode, s string) {
	t.Helper()
	want, wrong := unpackModel(m, s)
	unpacks(t, m, s, want, wrong)
}

// counted tells n bytes, no one like the one behind it, and none of them a nought.
func counted(n int) string {
	b := make([]byte, n)
	for i := range b {
		b[i] = byte(1 + i%255)
	}
	return string(b)
}

// anyBytes tells n bytes by chance.
func anyBytes(chance *rand.Rand, n int) string {
	b := make([]byte, n)
	chance.Read(b)
	return string(b)
}

// framed tells the frame of a field that goes in.
func framed(t *testing.T, m api.Mode, field string) string {
	t.Helper()
	s, wrong := packModel(m, field)
	if wrong != api.OK {
		t.Fatalf("%+v has no frame of %d bytes", m, len(field))
	}
	return s
}

// behind tells a frame of a mode with that header, and with bytes behind it that are no noughts.
func behind(m api.Mode, head string) string { return head + counted(frameSize(m)-len(head)) }

// The chapter's examples, one row each.
func TestExamples(t *testing.T) {
	m := api.Mode{Num: 1, Short: true}
	s, e := Pack(m, "hi")
	if e != api.OK || len(s) != 384 || s[:9] != "\x60\x00\x00\x00\x00\x10\x00\x00\x00" || s[10:] != "hi"+strings.Repeat("\x00", 372) {
		t.Fatalf("Pack: %s, %d", brief(s), e)
	}
	unpacks(t, m, s, "hi", api.OK)
	packs(t, m, strings.Repeat("a", 375), "", api.ErrLong)
	packs(t, api.Mode{Num: 11, Short: true}, "hi", "", api.ErrMode)
	refuses(t, m, s[:383], api.ErrForm)
}

// P14.1, P14.2: frames that are written out, with sums that were reckoned elsewhere.
func TestWrittenOut(t *testing.T) {
	for _, x := range []struct {
		m    api.Mode
		n    int
		head string
	}{
		{least, 0, "\x60\x00\x00\x00\x00\x00\x00\x00\x00\xa3"},
		{least, 1, "\x60\x00\x00\x00\x00\x08\x00\x00\x00\xf4"},
		{least, 2, "\x60\x00\x00\x00\x00\x10\x00\x00\x00\x0d"},
		{least, 374, "\x60\x00\x00\x00\x0b\xb0\x00\x00\x00\x4b"},
		{api.Mode{Num: 22, Short: true, Pilots: true}, 1769, "\x60\x00\x00\x00\x37\x48\x00\x00\x00\x6b"},
		{api.Mode{Num: 1, Pilots: true}, 1991, "\x60\x00\x00\x00\x3e\x38\x00\x00\x00\xa6"},
		{greatest, 7264, "\x60\x00\x00\x00\xe3\x00\x00\x00\x00\xd5"},
	} {
		field := counted(x.n)
		s := x.head + field + strings.Repeat("\x00", frameSize(x.m)-10-x.n)
		packs(t, x.m, field, s, api.OK)
		unpacks(t, x.m, s, field, api.OK)
	}
}

// P14.1, P14.3: every mode that there is, with no byte, one, some, all but one, as many as go in, and more.
func TestEveryMode(t *testing.T) {
	modes := everyMode()
	if len(modes) != 104 {
		t.Fatalf("%d modes", len(modes))
	}
	for _, m := range modes {
		n := most(m)
		for _, size := range []int{0, 1, 2, 3, 31, 32, 255, 256, n / 2, n - 1, n} {
			fieldLikeModel(t, m, counted(size))
			fieldLikeModel(t, m, strings.Repeat("\x00", size))
			fieldLikeModel(t, m, strings.Repeat("\xff", size))
		}
		for _, size := range []int{n + 1, n + 2, n + 9, n + 10, n + 11, 2 * n, 8 * n, 1 << 16, 1<<16 + 1, 1 << 17} {
			packs(t, m, counted(size), "", api.ErrLong)
		}
	}
}

// P14.1, P14.3: each number of bytes that go in, and some that do not, of the least frame and of the greatest.
func TestEachNumberOfBytes(t *testing.T) {
	for _, m := range []api.Mode{least, greatest} {
		all := counted(most(m) + 300)
		for n := range all {
			s, e := Pack(m, all[:n])
			if n > most(m) {
				if s != "" || e != api.ErrLong {
					t.Fatalf("Pack(%+v, %d bytes): %s, %d", m, n, brief(s), e)
				}
				continue
			}
			if len(s) != frameSize(m) || e != api.OK {
				t.Fatalf("Pack(%+v, %d bytes): %s, %d", m, n, brief(s), e)
			}
			unpacks(t, m, s, all[:n], api.OK)
		}
	}
}

// P14.1, P14.2: bytes, not letters, are counted.
func TestBytesAreCounted(t *testing.T) {
	fieldLikeModel(t, least, strings.Repeat("ä", 187))
	packs(t, least, strings.Repeat("ä", 187)+"a", "", api.ErrLong)
	packs(t, least, strings.Repeat("ä", 374), "", api.ErrLong)
	fieldLikeModel(t, least, "\xff\xfe\xc3\x28\x80\x80\xc0")
	refuses(t, least, headWith(0)+strings.Repeat("ä", 374), api.ErrForm)
	unpacks(t, least, headWith(16)+strings.Repeat("ä", 187), "ä", api.OK)
}

// P14.1, P14.2: what is no mode, whatever else there is.
func TestNoSuchMode(t *testing.T) {
	for _, m := range noModes() {
		for _, field := range []string{"", "a", counted(374), counted(7264), counted(7265), counted(1 << 16)} {
			packs(t, m, field, "", api.ErrMode)
		}
		for _, x := range append([]api.Mode{least, greatest}, ofNumber(10)...) {
			refuses(t, m, framed(t, x, "hi"), api.ErrMode)
		}
		refuses(t, m, "", api.ErrMode)
		refuses(t, m, headWith(0), api.ErrMode)
		refuses(t, m, counted(384), api.ErrMode)
	}
	for num := -300; num <= 300; num++ {
		for _, m := range ofNumber(num) {
			fieldLikeModel(t, m, "hi")
		}
	}
}

// P14.1: all bytes of a frame, each by itself: the header's ten, the field's, and the noughts.
func TestEachByteOfAFrame(t *testing.T) {
	for _, m := range everyMode() {
		n := most(m) / 3
		field := counted(n)
		s, e := Pack(m, field)
		if len(s) != frameSize(m) || e != api.OK {
			t.Fatalf("Pack(%+v): %s, %d", m, brief(s), e)
		}
		head := []byte{0x60, 0, 0, 0, byte(8 * n >> 8), byte(8 * n), 0, 0, 0, remainder(s[:9])}
		for i := range len(s) {
			var want byte
			switch {
			case i < 10:
				want = head[i]
			case i < 10+n:
				want = field[i-10]
			}
			if s[i] != want {
				t.Fatalf("Pack(%+v), byte %d: %x, want %x", m, i, s[i], want)
			}
		}
	}
}

// P14.2, P14.3: each byte of a frame, turned to each other one: the header's are told by its sum, the field's come as they are, those behind it count for nothing.
func TestEachByteTurned(t *testing.T) {
	field := counted(200)
	b := []byte(framed(t, least, field))
	for i := range b {
		for pattern := 1; pattern < 256; pattern++ {
			b[i] ^= byte(pattern)
			s := string(b)
			b[i] ^= byte(pattern)
			switch {
			case i < 10:
				refuses(t, least, s, api.ErrSum)
			case i < 210:
				unpacks(t, least, s, s[10:210], api.OK)
			default:
				unpacks(t, least, s, field, api.OK)
			}
		}
	}
}

// P14.2: anything at all stands behind the field.
func TestBehindTheField(t *testing.T) {
	chance := rand.New(rand.NewSource(14))
	for _, m := range everyMode() {
		size := frameSize(m)
		for _, n := range []int{0, 1, most(m) / 2, most(m) - 1, most(m)} {
			ahead := headWith(8*n) + anyBytes(chance, n)
			rest := size - len(ahead)
			for _, s := range []string{
				ahead + strings.Repeat("\x00", rest),
				ahead + strings.Repeat("\xff", rest),
				ahead + anyBytes(chance, rest),
				(ahead + strings.Repeat(headWith(8*n), rest/10+1))[:size],
			} {
				unpacks(t, m, s, ahead[10:], api.OK)
			}
		}
	}
}

// P14.2: no byte, one, nine, ten, eleven, one less than a frame has, one more, and many, of all kinds.
func TestHowManyBytes(t *testing.T) {
	for _, m := range everyMode() {
		size := frameSize(m)
		s := framed(t, m, counted(most(m)))
		for _, n := range []int{0, 1, 9, 10, 11, size - 10, size - 2, size - 1} {
			refuses(t, m, s[:n], api.ErrForm)
			refuses(t, m, s[size-n:], api.ErrForm)
			refuses(t, m, strings.Repeat("\x00", n), api.ErrForm)
			refuses(t, m, strings.Repeat("\xff", n), api.ErrForm)
		}
		for _, more := range []string{"\x00", "a", "\x00\x00", headWith(0), s} {
			refuses(t, m, s+more, api.ErrForm)
			refuses(t, m, more+s, api.ErrForm)
		}
		unpacks(t, m, s, s[10:], api.OK)
	}
	row := strings.Repeat(headWith(8), 2000)
	for n := range 2 * frameSize(least) {
		frameLikeModel(t, least, row[:n])
	}
	refuses(t, least, row, api.ErrForm)
}

// P14.2: each last byte of a header that is not its sum.
func TestWrongSums(t *testing.T) {
	for _, m := range everyMode() {
		b := []byte(framed(t, m, "hi"))
		for pattern := 1; pattern < 256; pattern++ {
			b[9] ^= byte(pattern)
			refuses(t, m, string(b), api.ErrSum)
			b[9] ^= byte(pattern)
		}
	}
}

// headsWithAnother tells headers whose sum is right, and of which MaType, Upl, Sync or Syncd by itself is another one.
func headsWithAnother() []string {
	var out []string
	for _, is := range []int{1, 2, 8, 0x80, 0xff, 0x100, 0x5fff, 0x6001, 0x6100, 0x7000, 0x8000, 0xe000, 0xffff} {
		out = append(out,
			summed(two(is)+"\x00\x00\x00\x10\x00\x00\x00"),
			summed("\x60\x00"+two(is)+"\x00\x10\x00\x00\x00"),
			summed("\x60\x00\x00\x00\x00\x10"+string([]byte{byte(is>>8 | is)})+"\x00\x00"),
			summed("\x60\x00\x00\x00\x00\x10\x00"+two(is)),
		)
	}
	return append(out, summed("\x00\x00\x00\x00\x00\x10\x00\x00\x00"))
}

// P14.2: every mode, with a header of which one number is another one.
func TestAnotherHeader(t *testing.T) {
	for _, head := range headsWithAnother() {
		for _, m := range everyMode() {
			refuses(t, m, behind(m, head), api.ErrForm)
		}
	}
	for _, m := range everyMode() {
		unpacks(t, m, behind(m, headWith(16)), "\x01\x02", api.OK)
	}
}

// P14.2: each number that there is of MaType, Upl, Sync and Syncd, all others being as they must.
func TestEachNumberOfAHeader(t *testing.T) {
	rest := counted(most(least))
	for _, x := range []struct {
		ahead  string
		size   int
		must   int
		behind string
	}{
		{"", 2, 24576, "\x00\x00\x00\x18\x00\x00\x00"},
		{"\x60\x00", 2, 0, "\x00\x18\x00\x00\x00"},
		{"\x60\x00\x00\x00\x00\x18", 1, 0, "\x00\x00"},
		{"\x60\x00\x00\x00\x00\x18\x00", 2, 0, ""},
	} {
		for n := range 1 << (8 * x.size) {
			s := summed(x.ahead+two(n)[2-x.size:]+x.behind) + rest
			if n == x.must {
				unpacks(t, least, s, rest[:3], api.OK)
			} else {
				refuses(t, least, s, api.ErrForm)
			}
		}
	}
}

// P14.2: each Dfl that there is: no whole bytes, as many as there are, more, and more than a header may say.
func TestEachDfl(t *testing.T) {
	for _, m := range []api.Mode{least, {Num: 10, Short: true, Pilots: true}, {Num: 1}, {Num: 10, Pilots: true}, greatest} {
		rest := counted(most(m))
		for dfl := range 1 << 16 {
			s := headWith(dfl) + rest
			switch {
			case dfl > 58112:
				refuses(t, m, s, api.ErrArg)
			case dfl%8 == 0 && dfl/8 <= most(m):
				unpacks(t, m, s, rest[:dfl/8], api.OK)
			default:
				refuses(t, m, s, api.ErrForm)
			}
		}
	}
}

// P14.2: every mode, at the edges of Dfl.
func TestEdgesOfDfl(t *testing.T) {
	for _, m := range everyMode() {
		bits := 8 * most(m)
		rest := counted(most(m))
		unpacks(t, m, headWith(0)+rest, "", api.OK)
		unpacks(t, m, headWith(8)+rest, rest[:1], api.OK)
		unpacks(t, m, headWith(bits-8)+rest, rest[:most(m)-1], api.OK)
		unpacks(t, m, headWith(bits)+rest, rest, api.OK)
		for left := 1; left < 8; left++ {
			refuses(t, m, headWith(left)+rest, api.ErrForm)
			refuses(t, m, headWith(bits-left)+rest, api.ErrForm)
			frameLikeModel(t, m, headWith(bits+left)+rest)
		}
		for _, dfl := range []int{bits + 1, bits + 8, bits + 16, bits + 80, 2 * bits, 58104, 58111, 58112, 58113, 58120, 65528, 65535} {
			if dfl < 1<<16 {
				frameLikeModel(t, m, headWith(dfl)+rest)
			}
		}
		if bits < 58112 {
			refuses(t, m, headWith(bits+8)+rest, api.ErrForm)
			refuses(t, m, headWith(58112)+rest, api.ErrForm)
		}
		refuses(t, m, headWith(58113)+rest, api.ErrArg)
		refuses(t, m, headWith(58120)+rest, api.ErrArg)
		refuses(t, m, headWith(65535)+rest, api.ErrArg)
	}
}

// R2: several wrongs at once: the mode, ahead of how many bytes, ahead of the sum, ahead of what a header may say, ahead of what this one must.
func TestSeveralWrongs(t *testing.T) {
	another := headsWithAnother()[0]
	tooGreat := headWith(58113)
	both := summed("\x12\x34\x56\x78\xff\xff\x01\x02\x03")
	for _, m := range everyMode() {
		none := api.Mode{Num: m.Num + 28, Short: m.Short, Pilots: m.Pilots}
		packs(t, none, counted(most(m)+1), "", api.ErrMode)
		for _, head := range []string{another, tooGreat, both, headWith(58112), headWith(7)} {
			turned := head[:9] + string([]byte{head[9] ^ 1})
			for _, s := range []string{behind(m, head), behind(m, turned)} {
				refuses(t, none, s, api.ErrMode)
				refuses(t, none, s[1:], api.ErrMode)
				refuses(t, m, s[:len(s)-1], api.ErrForm)
				refuses(t, m, s+"\x00", api.ErrForm)
			}
			refuses(t, m, behind(m, turned), api.ErrSum)
			refuses(t, m, head, api.ErrForm)
		}
		refuses(t, m, behind(m, both), api.ErrArg)
		refuses(t, m, behind(m, tooGreat), api.ErrArg)
		refuses(t, m, behind(m, summed("\x60\x00\x00\x01\xe3\x08\x00\x00\x00")), api.ErrArg)
		refuses(t, m, behind(m, summed("\x60\x01\x00\x01\xe3\x00\x01\x00\x01")), api.ErrForm)
		refuses(t, m, behind(m, summed("\x00\x00\x00\x00\x00\x07\x00\x00\x00")), api.ErrForm)
	}
}

// P14.2: a frame of one mode that is taken as one of another: as long as it is of as many bytes, nothing tells them from one another.
func TestOneModeAsAnother(t *testing.T) {
	for _, own := range everyMode() {
		frames := []string{framed(t, own, ""), framed(t, own, "a"), framed(t, own, counted(most(own)))}
		for _, other := range everyMode() {
			for _, s := range frames {
				if len(s) != frameSize(other) {
					refuses(t, other, s, api.ErrForm)
				}
				frameLikeModel(t, other, s)
			}
		}
	}
}

// P14.2: a frame that is cut down, or filled up, to how many bytes one of another mode has: its field comes if it goes in.
func TestCutToAnotherMode(t *testing.T) {
	for _, own := range everyMode() {
		for _, other := range everyMode() {
			size := frameSize(other)
			filled := framed(t, own, counted(most(own))) + strings.Repeat("\x00", size)
			if most(own) > most(other) {
				refuses(t, other, filled[:size], api.ErrForm)
			} else {
				unpacks(t, other, filled[:size], counted(most(own)), api.OK)
			}
		}
	}
}

// P14.3: a frame that stands in a frame's field comes back, too.
func TestFrameInAFrame(t *testing.T) {
	s := "hi"
	for _, m := range []api.Mode{least, {Num: 2, Short: true}, {Num: 10, Short: true}, {Num: 1}, {Num: 11}} {
		frame, e := Pack(m, s)
		if e != api.OK {
			t.Fatalf("Pack(%+v): %d", m, e)
		}
		unpacks(t, m, frame, s, api.OK)
		s = frame
	}
}

// P14.3: any fields, of every mode, come back from their frames.
func TestThereAndBack(t *testing.T) {
	chance := rand.New(rand.NewSource(143))
	for _, m := range everyMode() {
		for range 50 {
			fieldLikeModel(t, m, anyBytes(chance, chance.Intn(most(m)+20)))
			nine := anyBytes(chance, 9)
			frameLikeModel(t, m, behind(m, summed(nine)))
			frameLikeModel(t, m, behind(m, headWith(chance.Intn(1<<16))))
			frameLikeModel(t, m, behind(m, nine+"\x2a"))
		}
	}
}

// eachTurn tells each way to turn bits of ten bytes that are all within eight next to one another: the first one stands at each place, and is followed by any of the seven behind it that there are.
func eachTurn(head string, yield func(string)) {
	for place := range 80 {
		for others := range 128 {
			mask := (128 + others) << 8 >> (place % 8)
			b := append([]byte(head), 0)
			b[place/8] ^= byte(mask >> 8)
			b[place/8+1] ^= byte(mask)
			if b[10] == 0 {
				yield(string(b[:10]))
			}
		}
	}
}

// P14.3: each turn of bits within eight of a header, of every mode: within a byte, across two, in the sum, and across its border.
func TestTurnedBitsAreTold(t *testing.T) {
	for i, m := range everyMode() {
		n := []int{0, 1, 2, most(m) / 2, most(m)}[i%5]
		s := framed(t, m, counted(n))
		turns := 0
		eachTurn(s[:10], func(head string) {
			turns++
			if field, e := Unpack(m, head+s[10:]); field != "" || e != api.ErrSum {
				t.Errorf("Unpack(%+v, %x..): %s, %d", m, head, brief(field), e)
			}
		})
		// At 73 places all patterns, and at the last seven those that go in.
		if turns != 73*128+64+32+16+8+4+2+1 {
			t.Fatalf("%d turns", turns)
		}
	}
}

// P14.3: each turn likewise, of the least frame, with each field size.
func TestTurnedBitsOfEachSize(t *testing.T) {
	rest := counted(most(least))
	for n := 0; n <= most(least); n += 17 {
		eachTurn(headWith(8*n), func(head string) { refuses(t, least, head+rest, api.ErrSum) })
	}
}

// P14.2: nine bits, turned as the generator is, leave the sum right: what the header says then is another one, and is told so.
func TestTurnedAsTheGenerator(t *testing.T) {
	for _, m := range everyMode() {
		for _, n := range []int{0, 1, most(m)} {
			for up := range uint(72) {
				row := new(big.Int).SetBytes([]byte(headWith(8 * n)))
				row.Xor(row, new(big.Int).Lsh(big.NewInt(0x1d5), up))
				s := behind(m, string(row.FillBytes(make([]byte, 10))))
				if _, e := Unpack(m, s); e == api.ErrSum {
					t.Errorf("Unpack(%+v, %s): the sum is right", m, brief(s))
				}
				frameLikeModel(t, m, s)
			}
		}
	}
}

// R6: the same calls answer the same, whatever was called between.
func TestSameAgain(t *testing.T) {
	type answer struct {
		text string
		e    api.Errno
	}
	ask := func(m api.Mode, text string) [2]answer {
		var a [2]answer
		a[0].text, a[0].e = Pack(m, text)
		a[1].text, a[1].e = Unpack(m, text)
		return a
	}
	modes := append(everyMode(), noModes()...)
	texts := []string{"", "hi", counted(375), counted(7265), framed(t, least, "hi"), framed(t, greatest, counted(7264)), behind(least, headWith(7))}
	var first [][2]answer
	for _, m := range modes {
		for _, text := range texts {
			first = append(first, ask(m, text))
		}
	}
	for i := len(first) - 1; i >= 0; i-- {
		for range 2 {
			if a := ask(modes[i/len(texts)], texts[i%len(texts)]); a != first[i] {
				t.Errorf("%+v, %s: another answer", modes[i/len(texts)], brief(texts[i%len(texts)]))
			}
		}
	}
}

// R1, P14.1 to P14.3: whatever fields there are.
func FuzzField(f *testing.F) {
	f.Add(1, true, false, "hi", 1)
	f.Add(28, false, true, "", 0)
	f.Add(11, true, true, "a", 375)
	f.Add(math.MinInt, false, false, "abc", 3000)
	f.Fuzz(func(t *testing.T, num int, short, pilots bool, field string, times int) {
		field = strings.Repeat(field, max(0, min(times, 8000/(len(field)+1))))
		for _, n := range []int{num, 1 + int(uint(num)%28)} {
			fieldLikeModel(t, api.Mode{Num: n, Short: short, Pilots: pilots}, field)
		}
	})
}

// R1, P14.2: whatever bytes there are: alone, filled up to a frame, and with a right sum.
func FuzzFrame(f *testing.F) {
	f.Add(1, true, false, "\x60\x00\x00\x00\x00\x10\x00\x00\x00\x0dhi")
	f.Add(28, false, true, "\x60\x00\x00\x00\xe3\x00\x00\x00\x00\xd5")
	f.Add(23, true, true, "")
	f.Fuzz(func(t *testing.T, num int, short, pilots bool, s string) {
		for _, n := range []int{num, 1 + int(uint(num)%28)} {
			m := api.Mode{Num: n, Short: short, Pilots: pilots}
			frameLikeModel(t, m, s)
			filled := s + strings.Repeat("\x00", 10)
			filled = (filled + strings.Repeat(filled, frameSize(m)/len(filled)))[:max(10, frameSize(m))]
			frameLikeModel(t, m, filled)
			frameLikeModel(t, m, summed(filled[:9])+filled[10:])
		}
	})
}

package tests

import (
	"fmt"
	"math"
	"math/big"
	"regexp"
	"slices"
	"strings"
	"testing"

	"loop.example/g00064/impl"
)

const mostScreen = 40
const mostRoom = 10000
const mostText = 400
const mostGrow = 1000
const mostPad = 100
const mostWide = 100
const mostPlaced = 40000

// The ways of NextFocus.
const toLeft = 0
const toRight = 1
const toUp = 2
const toDown = 3

// noRune is what a byte is told as that belongs to no rune.
const noRune = 65533

func rowBox(up int, least int, grow int, pad int) impl.Box {
	return impl.Box{Up: up, Lay: impl.LayRow, Least: least, Grow: grow, Pad: pad}
}

func columnBox(up int, least int, grow int, pad int) impl.Box {
	return impl.Box{Up: up, Lay: impl.LayColumn, Least: least, Grow: grow, Pad: pad}
}

func boxes(l ...impl.Box) []impl.Box { return l }

// placedOnes reads four numbers each: X, Y, W and H.
func placedOnes(numbers ...int) []impl.Placed {
	var out []impl.Placed
	for i := 0; i < len(numbers); i += 4 {
		out = append(out, impl.Placed{X: numbers[i], Y: numbers[i+1], W: numbers[i+2], H: numbers[i+3]})
	}
	return out
}

// manyKids gives so many boxes, all but the first in that one.
func manyKids(many int) []impl.Box {
	var out []impl.Box
	for i := range many {
		out = append(out, rowBox(min(i, 1)-1, 0, 1, 0))
	}
	return out
}

// nestedBoxes gives so many, each in the one ahead of it, rows and columns in turn.
func nestedBoxes(many int, pad int) []impl.Box {
	var out []impl.Box
	for i := range many {
		out = append(out, impl.Box{Up: i - 1, Lay: 1 + i%2, Least: i, Grow: i % 3, Pad: pad})
	}
	return out
}

func manyPlaced(many int) []impl.Placed {
	var out []impl.Placed
	for i := range many {
		out = append(out, impl.Placed{X: 10 * i, Y: 3 * i, W: 8, H: 2})
	}
	return out
}

func sumOf(l []int) int {
	sum := 0
	for _, x := range l {
		sum += x
	}
	return sum
}

func slowGoodLists(least []int, grow []int) bool {
	good := len(least) == len(grow) && len(least) <= 40
	for _, x := range least {
		good = good && within(0, x, 10000)
	}
	for _, x := range grow {
		good = good && within(0, x, 1000)
	}
	return good
}

// slowShare gives each unit that is left over to the one whose exact share it is furthest behind.
func slowShare(room int, least []int, grow []int) ([]int, bool) {
	if !within(0, room, 10000) || !slowGoodLists(least, grow) {
		return nil, false
	}
	out, left, grows := append([]int{}, least...), room-sumOf(least), sumOf(grow)
	if left <= 0 || grows == 0 {
		return out, true
	}
	rest := make([]*big.Rat, len(grow))
	over := left
	for i, g := range grow {
		exact := big.NewRat(int64(left*g), int64(grows))
		got := cutOff(exact)
		rest[i] = exact.Sub(exact, big.NewRat(int64(got), 1))
		out[i] += got
		over -= got
	}
	for range over {
		most := 0
		for i := range rest {
			if rest[i].Cmp(rest[most]) > 0 {
				most = i
			}
		}
		out[most]++
		rest[most] = big.NewRat(-1, 1)
	}
	return out, true
}

func slowGoodScreen(l []impl.Box) bool {
	good := within(1, len(l), 40)
	for i, b := range l {
		good = good && within(1, b.Lay, 2) && within(0, b.Least, 10000) && within(0, b.Grow, 1000) && within(0, b.Pad, 100)
		good = good && (i == 0 && b.Up == -1 || i > 0 && within(0, b.Up, i-1))
	}
	return good
}

// slowBoxPlace asks for one box alone: for the one above it first, then for all beside it.
func slowBoxPlace(l []impl.Box, at int, wide int, high int) impl.Placed {
	if at == 0 {
		return impl.Placed{W: wide, H: high}
	}
	up := l[at].Up
	above, pad := slowBoxPlace(l, up, wide, high), l[up].Pad
	inner := impl.Placed{X: above.X + pad, Y: above.Y + pad, W: above.W - 2*pad, H: above.H - 2*pad}
	if inner.W < 0 {
		inner.W = 0
	}
	if inner.H < 0 {
		inner.H = 0
	}
	var least, grow []int
	number := 0
	for i, b := range l {
		if i == at {
			number = len(least)
		}
		if b.Up == up {
			least, grow = append(least, b.Least), append(grow, b.Grow)
		}
	}
	if l[up].Lay == 1 {
		shares, _ := slowShare(inner.W, least, grow)
		return impl.Placed{X: inner.X + sumOf(shares[:number]), Y: inner.Y, W: shares[number], H: inner.H}
	}
	shares, _ := slowShare(inner.H, least, grow)
	return impl.Placed{X: inner.X, Y: inner.Y + sumOf(shares[:number]), W: inner.W, H: shares[number]}
}

func slowLayOut(l []impl.Box, wide int, high int) ([]impl.Placed, bool) {
	if !slowGoodScreen(l) || !within(0, wide, 10000) || !within(0, high, 10000) {
		return nil, false
	}
	var out []impl.Placed
	for i := range l {
		out = append(out, slowBoxPlace(l, i, wide, high))
	}
	return out, true
}

// encodedBy writes a number in so many bytes, whether or not UTF-8 lets one do so.
func encodedBy(number int, many int) string {
	if many == 1 {
		return string([]byte{byte(number)})
	}
	out := make([]byte, many)
	for i := many - 1; i > 0; i-- {
		out[i] = byte(0x80 | number&0x3f)
		number >>= 6
	}
	out[0] = byte(0xff<<(8-many)&0xff | number)
	return string(out)
}

// slowRune reads the first rune of a text: bits from the bytes, and whether they are written as they must be.
func slowRune(s string) (int, int) {
	least := []int{0, 0, 128, 2048, 65536}
	for many := 1; many <= 4 && many <= len(s); many++ {
		number := int(s[0])
		if many > 1 {
			number &= 0x7f >> many
		}
		for _, b := range []byte(s[1:many]) {
			number = number<<6 | int(b&0x3f)
		}
		whole := number >= least[many] && number <= 1114111 && !within(0xd800, number, 0xdfff)
		if whole && (many > 1 || number < 128) && encodedBy(number, many) == s[:many] {
			return number, many
		}
	}
	return noRune, 1
}

// slowUnits cuts a text into its runes and the bytes that are none.
func slowUnits(s string) []string {
	var out []string
	for s != "" {
		_, many := slowRune(s)
		out = append(out, s[:many])
		s = s[many:]
	}
	return out
}

func slowRunes(s string) ([]int, bool) {
	if len(s) > 400 {
		return nil, false
	}
	var out []int
	for _, unit := range slowUnits(s) {
		number, _ := slowRune(unit)
		out = append(out, number)
	}
	return out, true
}

// slowWrap draws each row with a letter for each rune that is no blank, and asks a pattern that takes as much as it can.
func slowWrap(s string, wide int) ([]string, bool) {
	if len(s) > 400 || !within(1, wide, 100) {
		return nil, false
	}
	upToBlank := regexp.MustCompile(fmt.Sprintf("^.{0,%d} ", wide))
	var out []string
	for _, row := range regexp.MustCompile("\n").Split(s, -1) {
		units := slowUnits(row)
		for {
			var picture string
			for _, unit := range units {
				if unit == " " {
					picture += " "
				} else {
					picture += "x"
				}
			}
			if len(picture) <= wide {
				out = append(out, strings.Join(units, ""))
				break
			}
			head := upToBlank.FindString(picture)
			if head == "" {
				out = append(out, strings.Join(units[:wide], ""))
				units = units[wide:]
				continue
			}
			kept := len(regexp.MustCompile(" *$").ReplaceAllString(head, ""))
			out = append(out, strings.Join(units[:kept], ""))
			gone := len(head) + len(regexp.MustCompile("^ *").FindString(picture[len(head):]))
			if gone == len(picture) {
				break
			}
			units = units[gone:]
		}
	}
	return out, true
}

func slowGoodPlaced(l []impl.Placed) bool {
	good := len(l) <= 40
	for _, p := range l {
		good = good && within(0, p.X, 40000) && within(0, p.Y, 40000) && within(0, p.W, 40000) && within(0, p.H, 40000)
	}
	return good
}

// slowFocus writes down all that are further on with how far they are, and sorts them.
func slowFocus(l []impl.Placed, at int, way int) (int, bool) {
	if !slowGoodPlaced(l) || !within(0, at, len(l)-1) || !within(0, way, 3) {
		return 0, false
	}
	var found [][2]int
	for i, p := range l {
		x, y := 2*p.X+p.W, 2*p.Y+p.H
		fromX, fromY := 2*l[at].X+l[at].W, 2*l[at].Y+l[at].H
		sizeX, sizeY := max(x-fromX, fromX-x), max(y-fromY, fromY-y)
		further := []bool{x < fromX, x > fromX, y < fromY, y > fromY}[way]
		if i != at && further {
			found = append(found, [2]int{[]int{sizeX + 2*sizeY, sizeY + 2*sizeX}[way/2], i})
		}
	}
	if len(found) == 0 {
		return -1, true
	}
	slices.SortFunc(found, func(a [2]int, b [2]int) int { return slices.Compare(a[:], b[:]) })
	return found[0][1], true
}

func wantShare(t *testing.T, what string, room int, least []int, grow []int, want []int, good bool) {
	t.Helper()
	got := purely(t, "ShareRoom", impl.ShareRoom, room, least, grow)
	if !alike(got[0], want) || got[1] != good {
		t.Errorf("%s: ShareRoom %d, %v, %v = %v, want %v, %v", what, room, least, grow, got, want, good)
	}
}

// wantSlowShare asks for what the slow one gives.
func wantSlowShare(t *testing.T, what string, room int, least []int, grow []int) {
	t.Helper()
	want, good := slowShare(room, least, grow)
	wantShare(t, what, room, least, grow, want, good)
}

func wantGoodBoxes(t *testing.T, what string, l []impl.Box, want bool) {
	t.Helper()
	if got := purely(t, "GoodBoxes", impl.GoodBoxes, l); got[0] != want || slowGoodScreen(l) != want {
		t.Errorf("%s: GoodBoxes %v = %v, want %v", what, l, got, want)
	}
}

func wantLayOut(t *testing.T, what string, l []impl.Box, wide int, high int, want []impl.Placed, good bool) {
	t.Helper()
	got := purely(t, "LayOut", impl.LayOut, l, wide, high)
	if !alike(got[0], want) || got[1] != good {
		t.Errorf("%s: LayOut %v, %d, %d = %v, want %v, %v", what, l, wide, high, got, want, good)
	}
}

// wantSlowLayOut asks for what the slow one gives.
func wantSlowLayOut(t *testing.T, what string, l []impl.Box, wide int, high int) {
	t.Helper()
	want, good := slowLayOut(l, wide, high)
	wantLayOut(t, what, l, wide, high, want, good)
}

func wantRunes(t *testing.T, what string, s string, want []int, good bool) {
	t.Helper()
	got := purely(t, "RunesOf", impl.RunesOf, s)
	if !alike(got[0], want) || got[1] != good {
		t.Errorf("%s: RunesOf %q = %v, want %v, %v", what, s, got, want, good)
	}
}

// wantSlowRunes asks for what the slow one gives.
func wantSlowRunes(t *testing.T, what string, s string) {
	t.Helper()
	want, good := slowRunes(s)
	wantRunes(t, what, s, want, good)
}

func wantWrap(t *testing.T, what string, s string, wide int, want []string, good bool) {
	t.Helper()
	got := purely(t, "WrapText", impl.WrapText, s, wide)
	if !alike(got[0], want) || got[1] != good {
		t.Errorf("%s: WrapText %q, %d = %q, %v, want %q, %v", what, s, wide, got[0], got[1], want, good)
	}
}

// wantSlowWrap asks for what the slow one gives.
func wantSlowWrap(t *testing.T, what string, s string, wide int) {
	t.Helper()
	want, good := slowWrap(s, wide)
	wantWrap(t, what, s, wide, want, good)
}

func wantFocus(t *testing.T, what string, l []impl.Placed, at int, way int, want int, good bool) {
	t.Helper()
	got := purely(t, "NextFocus", impl.NextFocus, l, at, way)
	if got[0] != want || got[1] != good {
		t.Errorf("%s: NextFocus %v, %d, %d = %v, want %d, %v", what, l, at, way, got, want, good)
	}
}

// wantSlowFocus asks for what the slow one gives.
func wantSlowFocus(t *testing.T, what string, l []impl.Placed, at int, way int) {
	t.Helper()
	want, good := slowFocus(l, at, way)
	wantFocus(t, what, l, at, way, want, good)
}

// beyond gives numbers out of 0..most.
func beyond(most int) []int {
	return append(farNumbers(), -1, most+1, -most, 1<<32, 1<<32+1, -1<<32)
}

func TestScreenConstants(t *testing.T) {
	if impl.MaxBoxes != mostScreen || impl.MaxRoom != mostRoom || impl.MaxText != mostText {
		t.Error(impl.MaxBoxes, impl.MaxRoom, impl.MaxText)
	}
	if impl.LayRow != 1 || impl.LayColumn != 2 {
		t.Error(impl.LayRow, impl.LayColumn)
	}
}

func TestShareTold(t *testing.T) {
	for _, c := range []struct {
		what  string
		room  int
		least []int
		grow  []int
		want  []int
	}{
		{"none", 100, nil, nil, nil},
		{"none, no room", 0, nil, nil, nil},
		{"none, the most room", 10000, nil, nil, nil},
		{"one", 100, []int{30}, []int{1}, []int{100}},
		{"one that does not grow", 100, []int{30}, []int{0}, []int{30}},
		{"one that grows much", 100, []int{0}, []int{1000}, []int{100}},
		{"one, all room", 10000, []int{0}, []int{7}, []int{10000}},
		{"one, the greatest least", 10000, []int{10000}, []int{7}, []int{10000}},
		{"one, beyond the room", 9999, []int{10000}, []int{7}, []int{10000}},
		{"one, no room", 0, []int{0}, []int{7}, []int{0}},
		{"one, no room but a least", 0, []int{1}, []int{7}, []int{1}},
		{"less than the room by one", 10, []int{4, 5}, []int{1, 1}, []int{5, 5}},
		{"less by one, to the later", 10, []int{4, 5}, []int{1, 2}, []int{4, 6}},
		{"just the room", 10, []int{4, 6}, []int{1, 1}, []int{4, 6}},
		{"more than the room", 10, []int{4, 7}, []int{1, 1}, []int{4, 7}},
		{"far more than the room", 10, []int{10000, 10000}, []int{1, 1}, []int{10000, 10000}},
		{"no room at all", 0, []int{4, 7}, []int{1, 1}, []int{4, 7}},
		{"all grows 0", 10, []int{1, 2, 3}, []int{0, 0, 0}, []int{1, 2, 3}},
		{"all grows 0, no leasts", 10, []int{0, 0}, []int{0, 0}, []int{0, 0}},
		{"the first grow 0", 10, []int{1, 1, 1}, []int{0, 1, 1}, []int{1, 5, 4}},
		{"a middle grow 0", 10, []int{1, 1, 1}, []int{1, 0, 1}, []int{5, 1, 4}},
		{"the last grow 0", 10, []int{1, 1, 1}, []int{1, 1, 0}, []int{5, 4, 1}},
		{"one alone grows", 10, []int{1, 1, 1}, []int{0, 3, 0}, []int{1, 8, 1}},
		{"without a rest", 12, []int{0, 0, 0}, []int{1, 2, 3}, []int{2, 4, 6}},
		{"all rests alike, one over", 10, []int{0, 0, 0}, []int{1, 1, 1}, []int{4, 3, 3}},
		{"all rests alike, two over", 11, []int{0, 0, 0}, []int{1, 1, 1}, []int{4, 4, 3}},
		{"leasts on top of it", 11, []int{5, 1, 0}, []int{1, 1, 1}, []int{7, 3, 1}},
		{"all but one get one more", 14, []int{0, 0, 0, 0, 0}, []int{9, 9, 9, 9, 9}, []int{3, 3, 3, 3, 2}},
		{"less than one each", 4, []int{0, 0, 0, 0, 0}, []int{9, 9, 9, 9, 9}, []int{1, 1, 1, 1, 0}},
		{"one unit for five", 1, []int{0, 0, 0, 0, 0}, []int{9, 9, 9, 9, 9}, []int{1, 0, 0, 0, 0}},
		{"one unit, the greatest grow", 1, []int{0, 0, 0}, []int{4, 5, 4}, []int{0, 1, 0}},
		{"the greatest rest first", 10, []int{0, 0, 0}, []int{5, 3, 8}, []int{3, 2, 5}},
		{"the greatest rest last", 10, []int{0, 0}, []int{1, 2}, []int{3, 7}},
		{"the greatest rest is of the least grow", 5, []int{0, 0}, []int{7, 1}, []int{4, 1}},
		{"alike at the first and the last", 10, []int{0, 0, 0, 0}, []int{3, 5, 5, 3}, []int{2, 3, 3, 2}},
		{"alike at the first and a middle", 9, []int{0, 0, 0}, []int{1, 1, 2}, []int{2, 2, 5}},
		{"alike at a middle and the last", 9, []int{0, 0, 0}, []int{2, 1, 1}, []int{5, 2, 2}},
		{"alike at all, of unlike grows", 3, []int{0, 0}, []int{1, 3}, []int{1, 2}},
		{"halves, the first ahead", 5, []int{0, 0}, []int{1, 1}, []int{3, 2}},
		{"halves of unlike grows", 2, []int{0, 0}, []int{1, 3}, []int{1, 1}},
		{"the greatest grows", 10000, []int{0, 0, 0}, []int{1000, 1000, 1000}, []int{3334, 3333, 3333}},
		{"a small grow beside great ones", 10000, []int{0, 0, 0}, []int{1, 1000, 1000}, []int{5, 4998, 4997}},
		{"the first grows by the room only", 10000, []int{9999, 0}, []int{1, 1}, []int{10000, 0}},
	} {
		wantShare(t, c.what, c.room, c.least, c.grow, c.want, true)
		wantSlowShare(t, c.what, c.room, c.least, c.grow)
	}
}

func TestShareAtTheMost(t *testing.T) {
	none, ones := slices.Repeat([]int{0}, mostScreen), slices.Repeat([]int{1}, mostScreen)
	wantShare(t, "all rooms alike", mostRoom, none, ones, slices.Repeat([]int{mostRoom / mostScreen}, mostScreen), true)
	wantShare(t, "all leasts at their most", mostRoom, slices.Repeat([]int{mostRoom}, mostScreen), ones, slices.Repeat([]int{mostRoom}, mostScreen), true)
	for over := range mostScreen {
		want := append(slices.Repeat([]int{8}, over), slices.Repeat([]int{7}, mostScreen-over)...)
		wantShare(t, "some over", 7*mostScreen+over, none, ones, want, true)
		wantShare(t, "some over, great grows", 7*mostScreen+over, none, slices.Repeat([]int{mostGrow}, mostScreen), want, true)
	}
	for at := range mostScreen {
		one := slices.Clone(none)
		one[at] = 1
		wantShare(t, "one unit, one grows", 1, none, one, one, true)
		grow := slices.Clone(ones)
		grow[at] = 2
		wantShare(t, "one unit, one grows most", 1, none, grow, one, true)
		grow[at] = 0
		wantSlowShare(t, "one does not grow", 100+at, none, grow)
		least := slices.Clone(none)
		least[at] = 100
		wantSlowShare(t, "one has a least", 120+at, least, ones)
	}
}

func TestShareOfWrongInputs(t *testing.T) {
	for _, room := range beyond(mostRoom) {
		wantShare(t, "no room", room, nil, nil, nil, false)
		wantShare(t, "no room", room, []int{1, 1}, []int{1, 2}, nil, false)
		wantShare(t, "no room, no grow", room, []int{1, 1}, []int{0, 0}, nil, false)
		wantShare(t, "no room, great leasts", room, []int{10000, 10000}, []int{1, 1}, nil, false)
	}
	for _, many := range [][2]int{{0, 1}, {1, 0}, {1, 2}, {2, 1}, {39, 40}, {40, 39}, {40, 41}, {41, 40}, {41, 41}, {0, 40}, {40, 0}, {500, 500}} {
		least, grow := slices.Repeat([]int{1}, many[0]), slices.Repeat([]int{1}, many[1])
		wantShare(t, "lists of a wrong length", 100, least, grow, nil, false)
		wantShare(t, "lists of a wrong length, no room", 0, least, grow, nil, false)
		wantShare(t, "lists of a wrong length, no grow", 100, least, slices.Repeat([]int{0}, many[1]), nil, false)
	}
	for at := range 4 {
		for _, bad := range beyond(mostRoom) {
			least := []int{1, 2, 0, 4}
			least[at] = bad
			wantShare(t, "a least that is none", 100, least, []int{1, 2, 3, 4}, nil, false)
			wantShare(t, "a least that is none, no room", 0, least, []int{1, 2, 3, 4}, nil, false)
			wantShare(t, "a least that is none, no grow", 100, least, []int{0, 0, 0, 0}, nil, false)
		}
		for _, bad := range beyond(mostGrow) {
			grow := []int{1, 2, 0, 4}
			grow[at] = bad
			wantShare(t, "a grow that is none", 100, []int{1, 2, 3, 4}, grow, nil, false)
			wantShare(t, "a grow that is none, no room", 0, []int{1, 2, 3, 4}, grow, nil, false)
			wantShare(t, "a grow that is none, great leasts", 100, []int{99, 99, 99, 99}, grow, nil, false)
		}
		for _, edge := range [][2]int{{0, 0}, {0, mostGrow}, {mostRoom, 0}, {mostRoom, mostGrow}} {
			least, grow := []int{1, 2, 0, 4}, []int{1, 2, 0, 4}
			least[at], grow[at] = edge[0], edge[1]
			for _, room := range []int{0, 1, 7, 8, 100, 9999, mostRoom} {
				wantSlowShare(t, "at an end", room, least, grow)
			}
		}
	}
}

// All lists of up to four small numbers, and all small rooms.
func TestShareOfAllSmallLists(t *testing.T) {
	for many := range 5 {
		for way := range int(math.Pow(4, float64(many))) {
			least, grow := make([]int, many), make([]int, many)
			for i := range many {
				grow[i] = way >> (2 * i) & 3
				least[i] = (way + i) % 3
			}
			for room := range 14 {
				want, _ := slowShare(room, least, grow)
				if got, good := impl.ShareRoom(room, least, grow); !good || !slices.Equal(got, want) {
					t.Fatal(room, least, grow, got, want, good)
				}
			}
		}
	}
}

// sharedToTheUnit asks for what promise 18 says of shares: no unit lies over, none is given twice, and each is within a unit of its exact share.
func sharedToTheUnit(t *testing.T, room int, least []int, grow []int, got []int) {
	t.Helper()
	left, grows := room-sumOf(least), sumOf(grow)
	if left <= 0 || grows == 0 {
		if !slices.Equal(got, least) {
			t.Fatal("more than the leasts", room, least, grow, got)
		}
		return
	}
	if sumOf(got) != room {
		t.Fatal("not just the room", room, least, grow, got)
	}
	for i := range got {
		exact := big.NewRat(int64(left*grow[i]), int64(grows))
		off := exact.Sub(big.NewRat(int64(got[i]-least[i]), 1), exact)
		if off.Abs(off).Cmp(big.NewRat(1, 1)) >= 0 {
			t.Fatal("a unit or more away from its share", room, least, grow, got, i)
		}
		for j := range i {
			one, other := got[j]-least[j], got[i]-least[i]
			if grow[j] >= grow[i] && one < other-1 || grow[j] == grow[i] && !within(other, one, other+1) {
				t.Fatal("two are not in order", room, least, grow, got, j, i)
			}
		}
	}
}

// Promise 18.
func TestRoomIsSharedToTheUnit(t *testing.T) {
	shared := 0
	for seed := range 3000 {
		next := coinRow(seed + 18000)
		many := next(mostScreen + 1)
		room, most, grows := coinOf(next, []int{0, 1, next(100), next(4000), 3 * next(3334), mostRoom}), 1+next(60), 1+next(mostGrow)
		least, grow := make([]int, many), make([]int, many)
		for i := range many {
			least[i], grow[i] = next(most)*next(3), next(grows+1)*next(3)/2
		}
		wantSlowShare(t, "coins", room, least, grow)
		got, good := impl.ShareRoom(room, least, grow)
		if !good {
			t.Fatal(room, least, grow)
		}
		sharedToTheUnit(t, room, least, grow, got)
		if sumOf(got) == room && many > 2 {
			shared++
		}
	}
	if shared < 1000 {
		t.Error("little was shared", shared)
	}
}

// goodScreens holds boxes at each limit that the document names.
func goodScreens() map[string][]impl.Box {
	return map[string][]impl.Box{
		"one":                   boxes(rowBox(-1, 0, 0, 0)),
		"one column":            boxes(columnBox(-1, 0, 0, 0)),
		"one at its ends":       boxes(columnBox(-1, 10000, 1000, 100)),
		"one in another":        boxes(rowBox(-1, 0, 0, 0), rowBox(0, 0, 0, 0)),
		"one in another, ends":  boxes(rowBox(-1, 10000, 1000, 100), columnBox(0, 10000, 1000, 100)),
		"as many as may be":     manyKids(mostScreen),
		"as deep as may be":     nestedBoxes(mostScreen, 0),
		"as deep, with pads":    nestedBoxes(mostScreen, 3),
		"as deep, great pads":   nestedBoxes(mostScreen, mostPad),
		"kids of kids":          boxes(rowBox(-1, 0, 0, 5), columnBox(0, 10, 1, 2), columnBox(0, 20, 2, 1), rowBox(1, 3, 1, 0), rowBox(2, 4, 1, 0), rowBox(1, 5, 0, 0)),
		"kids of several mixed": boxes(columnBox(-1, 0, 0, 1), rowBox(0, 1, 1, 1), rowBox(1, 1, 1, 1), rowBox(0, 1, 1, 1), rowBox(1, 1, 1, 1), rowBox(3, 1, 1, 1), columnBox(2, 1, 1, 1)),
		"leasts beyond all":     boxes(rowBox(-1, 0, 0, 0), rowBox(0, 10000, 1, 0), rowBox(0, 10000, 1, 0), columnBox(2, 10000, 1, 0), columnBox(3, 10000, 1, 0)),
	}
}

// badScreens holds boxes that are not good, in each way that the document names.
func badScreens() map[string][]impl.Box {
	out := map[string][]impl.Box{
		"none":                  nil,
		"nothing":               {{}},
		"one too many":          manyKids(mostScreen + 1),
		"one too many, deep":    nestedBoxes(mostScreen+1, 0),
		"far too many":          manyKids(5000),
		"the only Up 0":         boxes(rowBox(0, 0, 0, 0)),
		"the only Up 1":         boxes(rowBox(1, 0, 0, 0)),
		"the only Up -2":        boxes(rowBox(-2, 0, 0, 0)),
		"the first Up 0":        boxes(rowBox(0, 0, 0, 0), rowBox(0, 0, 0, 0)),
		"the first Up 1":        boxes(rowBox(1, 0, 0, 0), rowBox(0, 0, 0, 0)),
		"two of Up -1":          boxes(rowBox(-1, 0, 0, 0), rowBox(-1, 0, 0, 0)),
		"the last of Up -1":     boxes(rowBox(-1, 0, 0, 0), rowBox(0, 0, 0, 0), rowBox(-1, 0, 0, 0)),
		"one in itself":         boxes(rowBox(-1, 0, 0, 0), rowBox(1, 0, 0, 0)),
		"the last in itself":    boxes(rowBox(-1, 0, 0, 0), rowBox(0, 0, 0, 0), rowBox(2, 0, 0, 0)),
		"one in the one behind": boxes(rowBox(-1, 0, 0, 0), rowBox(2, 0, 0, 0), rowBox(0, 0, 0, 0)),
		"one in none":           boxes(rowBox(-1, 0, 0, 0), rowBox(2, 0, 0, 0)),
		"two in one another":    boxes(rowBox(-1, 0, 0, 0), rowBox(2, 0, 0, 0), rowBox(1, 0, 0, 0)),
	}
	for at := range 3 {
		spoil := func(what string, numbers []int, set func(b *impl.Box, number int)) {
			for _, number := range numbers {
				l := boxes(rowBox(-1, 1, 1, 1), columnBox(0, 1, 1, 1), rowBox(1, 1, 1, 1))
				set(&l[at], number)
				out[fmt.Sprint(what, " ", number, " at ", at)] = l
				if at == 0 {
					out[fmt.Sprint("the only ", what, " ", number)] = l[:1]
				}
			}
		}
		spoil("Lay", append(farNumbers(), 0, 3, -1, -2, 1<<32+1), func(b *impl.Box, number int) { b.Lay = number })
		spoil("Least", beyond(mostRoom), func(b *impl.Box, number int) { b.Least = number })
		spoil("Grow", beyond(mostGrow), func(b *impl.Box, number int) { b.Grow = number })
		spoil("Pad", beyond(mostPad), func(b *impl.Box, number int) { b.Pad = number })
		spoil("Up", append(farNumbers(), at, at+1, 3, 40, -2, 1<<32, 1<<32-1), func(b *impl.Box, number int) { b.Up = number })
	}
	return out
}

func TestGoodBoxes(t *testing.T) {
	for what, l := range goodScreens() {
		wantGoodBoxes(t, what, l, true)
	}
	for what, l := range badScreens() {
		wantGoodBoxes(t, what, l, false)
	}
	for at := range mostScreen {
		for up := -2; up <= mostScreen; up++ {
			l := manyKids(mostScreen)
			l[at].Up = up
			wantGoodBoxes(t, "any Up", l, at == 0 && up == -1 || at > 0 && up >= 0 && up < at)
		}
	}
}

func TestLayOutTold(t *testing.T) {
	for _, c := range []struct {
		what string
		l    []impl.Box
		wide int
		high int
		want []impl.Placed
	}{
		{"one", boxes(rowBox(-1, 50, 3, 7)), 30, 20, placedOnes(0, 0, 30, 20)},
		{"one, no room", boxes(rowBox(-1, 50, 3, 7)), 0, 0, placedOnes(0, 0, 0, 0)},
		{"one, all room", boxes(columnBox(-1, 0, 0, 0)), 10000, 10000, placedOnes(0, 0, 10000, 10000)},
		{"a kid", boxes(rowBox(-1, 0, 0, 0), rowBox(0, 5, 1, 0)), 30, 20, placedOnes(0, 0, 30, 20, 0, 0, 30, 20)},
		{"a kid that does not grow", boxes(rowBox(-1, 0, 0, 0), rowBox(0, 5, 0, 0)), 30, 20, placedOnes(0, 0, 30, 20, 0, 0, 5, 20)},
		{"the same in a column", boxes(columnBox(-1, 0, 0, 0), rowBox(0, 5, 0, 0)), 30, 20, placedOnes(0, 0, 30, 20, 0, 0, 30, 5)},
		{"a kid within a pad", boxes(rowBox(-1, 0, 0, 3), rowBox(0, 5, 1, 0)), 30, 20, placedOnes(0, 0, 30, 20, 3, 3, 24, 14)},
		{"a kid's own pad is its own", boxes(rowBox(-1, 0, 0, 0), rowBox(0, 5, 1, 9)), 30, 20, placedOnes(0, 0, 30, 20, 0, 0, 30, 20)},
		{"side by side", boxes(rowBox(-1, 0, 0, 0), rowBox(0, 5, 0, 0), columnBox(0, 0, 1, 0), rowBox(0, 7, 0, 0)), 30, 20,
			placedOnes(0, 0, 30, 20, 0, 0, 5, 20, 5, 0, 18, 20, 23, 0, 7, 20)},
		{"one below the other", boxes(columnBox(-1, 0, 0, 0), rowBox(0, 5, 0, 0), columnBox(0, 0, 1, 0), rowBox(0, 7, 0, 0)), 30, 20,
			placedOnes(0, 0, 30, 20, 0, 0, 30, 5, 0, 5, 30, 8, 0, 13, 30, 7)},
		{"side by side within a pad", boxes(rowBox(-1, 0, 0, 2), rowBox(0, 0, 1, 0), rowBox(0, 0, 1, 0)), 13, 10,
			placedOnes(0, 0, 13, 10, 2, 2, 5, 6, 7, 2, 4, 6)},
		{"below one another within a pad", boxes(columnBox(-1, 0, 0, 2), rowBox(0, 0, 1, 0), rowBox(0, 0, 1, 0)), 13, 11,
			placedOnes(0, 0, 13, 11, 2, 2, 9, 4, 2, 6, 9, 3)},
		{"the first one's Least and Grow are for nothing", boxes(rowBox(-1, 10000, 1000, 0), rowBox(0, 0, 1, 0)), 3, 4, placedOnes(0, 0, 3, 4, 0, 0, 3, 4)},
		{"beyond the room", boxes(rowBox(-1, 0, 0, 0), rowBox(0, 20, 1, 0), rowBox(0, 20, 5, 0), rowBox(0, 3, 0, 0)), 30, 20,
			placedOnes(0, 0, 30, 20, 0, 0, 20, 20, 20, 0, 20, 20, 40, 0, 3, 20)},
		{"beyond the room, below", boxes(columnBox(-1, 0, 0, 1), rowBox(0, 20, 1, 0), rowBox(0, 20, 5, 0)), 30, 20,
			placedOnes(0, 0, 30, 20, 1, 1, 28, 20, 1, 21, 28, 20)},
		{"a pad that leaves one unit", boxes(rowBox(-1, 0, 0, 5), rowBox(0, 0, 1, 0)), 11, 11, placedOnes(0, 0, 11, 11, 5, 5, 1, 1)},
		{"a pad that leaves just nothing", boxes(rowBox(-1, 0, 0, 5), rowBox(0, 0, 1, 0)), 10, 10, placedOnes(0, 0, 10, 10, 5, 5, 0, 0)},
		{"a pad that leaves nothing", boxes(rowBox(-1, 0, 0, 5), rowBox(0, 0, 1, 0)), 9, 9, placedOnes(0, 0, 9, 9, 5, 5, 0, 0)},
		{"a pad that leaves nothing, high", boxes(rowBox(-1, 0, 0, 5), rowBox(0, 0, 1, 0)), 30, 2, placedOnes(0, 0, 30, 2, 5, 5, 20, 0)},
		{"a pad that leaves nothing, wide", boxes(rowBox(-1, 0, 0, 5), rowBox(0, 0, 1, 0)), 2, 30, placedOnes(0, 0, 2, 30, 5, 5, 0, 20)},
		{"a great pad in no room", boxes(rowBox(-1, 0, 0, 100), rowBox(0, 4, 1, 100), columnBox(1, 6, 1, 100), rowBox(2, 8, 1, 0)), 0, 0,
			placedOnes(0, 0, 0, 0, 100, 100, 4, 0, 200, 200, 6, 0, 300, 300, 0, 8)},
		{"a row in a column", boxes(columnBox(-1, 0, 0, 1), rowBox(0, 4, 0, 1), rowBox(0, 0, 1, 0), rowBox(1, 3, 0, 0), rowBox(1, 0, 1, 0)), 20, 12,
			placedOnes(0, 0, 20, 12, 1, 1, 18, 4, 1, 5, 18, 6, 2, 2, 3, 2, 5, 2, 13, 2)},
		{"a column in a row", boxes(rowBox(-1, 0, 0, 1), columnBox(0, 4, 0, 1), rowBox(0, 0, 1, 0), rowBox(1, 3, 0, 0), rowBox(1, 0, 1, 0)), 12, 20,
			placedOnes(0, 0, 12, 20, 1, 1, 4, 18, 5, 1, 6, 18, 2, 2, 2, 3, 2, 5, 2, 13)},
		{"kids of several boxes in turn", boxes(rowBox(-1, 0, 0, 0), columnBox(0, 0, 1, 0), columnBox(0, 0, 1, 0), rowBox(1, 2, 0, 0), rowBox(2, 3, 0, 0), rowBox(1, 4, 0, 0), rowBox(0, 6, 0, 0)), 26, 10,
			placedOnes(0, 0, 26, 10, 0, 0, 10, 10, 10, 0, 10, 10, 0, 0, 10, 2, 10, 0, 10, 3, 0, 2, 10, 4, 20, 0, 6, 10)},
		{"within one that lies beyond", boxes(rowBox(-1, 0, 0, 0), rowBox(0, 10, 0, 0), rowBox(0, 10, 0, 2), columnBox(2, 0, 1, 0)), 5, 5,
			placedOnes(0, 0, 5, 5, 0, 0, 10, 5, 10, 0, 10, 5, 12, 2, 6, 1)},
	} {
		wantLayOut(t, c.what, c.l, c.wide, c.high, c.want, true)
		wantSlowLayOut(t, c.what, c.l, c.wide, c.high)
	}
}

func TestLayOutAtTheMost(t *testing.T) {
	full := slices.Repeat(boxes(columnBox(0, mostRoom, mostGrow, mostPad)), mostScreen)
	full[0].Up = -1
	want := placedOnes(0, 0, mostRoom, mostRoom)
	for i := range mostScreen - 1 {
		want = append(want, impl.Placed{X: 100, Y: 100 + mostRoom*i, W: 9800, H: mostRoom})
	}
	wantLayOut(t, "all of them beyond", full, mostRoom, mostRoom, want, true)
	want = placedOnes(0, 0, 0, 0)
	for i := 1; i < mostScreen; i++ {
		want = append(want, impl.Placed{X: mostPad * i, Y: mostPad * i})
	}
	deep := nestedBoxes(mostScreen, mostPad)
	for i := range deep {
		deep[i].Least = 0
	}
	wantLayOut(t, "the deepest, no room", deep, 0, 0, want, true)
}

func TestLayOutOfWrongInputs(t *testing.T) {
	rooms := []int{0, 1, 7, 99, 200, 201, 9999, mostRoom}
	for what, l := range goodScreens() {
		for _, wide := range rooms {
			for _, high := range rooms {
				wantSlowLayOut(t, what, l, wide, high)
			}
			for _, bad := range beyond(mostRoom) {
				wantLayOut(t, what, l, wide, bad, nil, false)
				wantLayOut(t, what, l, bad, wide, nil, false)
			}
		}
	}
	for what, l := range badScreens() {
		for _, room := range append(slices.Clone(rooms), -1) {
			wantLayOut(t, what, l, room, 10, nil, false)
			wantLayOut(t, what, l, 10, room, nil, false)
		}
	}
}

func coinScreen(next func(int) int, many int) []impl.Box {
	out := boxes(impl.Box{Up: -1, Lay: 1 + next(2), Least: next(50), Grow: next(4), Pad: next(4) * next(3)})
	for i := 1; i < many; i++ {
		out = append(out, impl.Box{Up: next(i), Lay: 1 + next(2), Least: next(40) * next(2), Grow: next(5) * next(3), Pad: next(4) * next(3)})
	}
	return out
}

// Promise 18: what is within a box's pad is given to its kids to the unit, without a gap between them.
func TestKidsFillTheirRoom(t *testing.T) {
	whole := 0
	for seed := range 1500 {
		next := coinRow(seed + 18100)
		l, wide, high := coinScreen(next, 1+next(mostScreen)), next(700), next(700)
		wantSlowLayOut(t, "coins", l, wide, high)
		got, good := impl.LayOut(l, wide, high)
		if !good || len(got) != len(l) {
			t.Fatal(l, wide, high, got, good)
		}
		for up, b := range l {
			at, end, grows, least := got[up].X+b.Pad, max(0, got[up].W-2*b.Pad), 0, 0
			if b.Lay == impl.LayColumn {
				at, end = got[up].Y+b.Pad, max(0, got[up].H-2*b.Pad)
			}
			end += at
			room := end - at
			for i, kid := range l {
				if kid.Up != up {
					continue
				}
				begin, size := got[i].X, got[i].W
				if b.Lay == impl.LayColumn {
					begin, size = got[i].Y, got[i].H
				}
				if begin != at || size < kid.Least {
					t.Fatal("a gap, or less than the least", l, wide, high, got, up, i)
				}
				at, grows, least = at+size, grows+kid.Grow, least+kid.Least
			}
			if grows > 0 && least <= room {
				whole++
				if at != end {
					t.Fatal("not all of the room", l, wide, high, got, up)
				}
			}
		}
	}
	if whole < 1500 {
		t.Error("little was laid out", whole)
	}
}

// runeEdges holds the first and the last number of each length, and those beside what is left out.
func runeEdges() [][2]int {
	return [][2]int{{0, 1}, {9, 1}, {10, 1}, {32, 1}, {65, 1}, {127, 1}, {128, 2}, {233, 2}, {2047, 2}, {2048, 3}, {0x20ac, 3},
		{0xd7ff, 3}, {0xe000, 3}, {noRune, 3}, {65534, 3}, {65535, 3}, {65536, 4}, {0x1f600, 4}, {0xfffff, 4}, {0x100000, 4}, {1114111, 4}}
}

// brokenRunes holds sequences that are no runes, in each way that the document names; each byte of them is one by itself.
func brokenRunes() []string {
	out := []string{
		encodedBy(0, 2), encodedBy(65, 2), encodedBy(127, 2), encodedBy(0, 3), encodedBy(128, 3), encodedBy(2047, 3),
		encodedBy(0, 4), encodedBy(2048, 4), encodedBy(65535, 4), encodedBy(0xd800, 3), encodedBy(0xdbff, 3), encodedBy(0xdc00, 3),
		encodedBy(0xdfff, 3), encodedBy(0xd800, 3) + encodedBy(0xdc00, 3), encodedBy(0xd800, 4), encodedBy(1114112, 4), encodedBy(0x13ffff, 4),
		encodedBy(0x1fffff, 4), encodedBy(65536, 5), encodedBy(65536, 6),
	}
	for _, edge := range runeEdges() {
		whole := encodedBy(edge[0], edge[1])
		for many := 1; many < len(whole); many++ {
			out = append(out, whole[:many], whole[many:])
		}
	}
	for b := 128; b < 256; b++ {
		out = append(out, string([]byte{byte(b)}), string([]byte{byte(b), byte(b)}))
	}
	return out
}

func noRunes(many int) []int { return slices.Repeat([]int{noRune}, many) }

func TestRunesTold(t *testing.T) {
	wantRunes(t, "no byte", "", nil, true)
	for _, edge := range runeEdges() {
		text := encodedBy(edge[0], edge[1])
		if text != string(rune(edge[0])) {
			t.Fatal(edge, text)
		}
		wantRunes(t, "one", text, []int{edge[0]}, true)
		wantRunes(t, "between letters", "a"+text+"b", []int{'a', edge[0], 'b'}, true)
		wantRunes(t, "twice", text+text, []int{edge[0], edge[0]}, true)
		wantRunes(t, "behind a byte that is none", "\xff"+text, []int{noRune, edge[0]}, true)
		wantRunes(t, "behind one that is cut short", "\xf0\x9f\x98"+text, []int{noRune, noRune, noRune, edge[0]}, true)
		wantRunes(t, "ahead of a byte that is none", text+"\x80", []int{edge[0], noRune}, true)
	}
	for _, broken := range brokenRunes() {
		wantRunes(t, "none", broken, noRunes(len(broken)), true)
		wantRunes(t, "none between letters", "a"+broken+"b", slices.Concat([]int{'a'}, noRunes(len(broken)), []int{'b'}), true)
		wantRunes(t, "none behind a rune", "€"+broken, slices.Concat([]int{0x20ac}, noRunes(len(broken))), true)
		wantRunes(t, "none ahead of a rune", broken+"é", slices.Concat(noRunes(len(broken)), []int{233}), true)
	}
	wantRunes(t, "each of its own length", "aé€😀", []int{97, 233, 8364, 128512}, true)
	wantRunes(t, "a sequence longer than it must be with a rune's bytes", "\xf0\x82\x82\xac", noRunes(4), true)
	wantRunes(t, "cut short by its own beginning", "\xe2\x82\xe2\x82\xac", []int{noRune, noRune, 0x20ac}, true)
}

func TestRunesAtTheMost(t *testing.T) {
	wantRunes(t, "one byte", "x", []int{'x'}, true)
	wantRunes(t, "as many as may be", strings.Repeat("x", mostText), slices.Repeat([]int{'x'}, mostText), true)
	wantRunes(t, "one more", strings.Repeat("x", mostText+1), nil, false)
	wantRunes(t, "far more", strings.Repeat("x", 1<<20), nil, false)
	wantRunes(t, "as many of two", strings.Repeat("é", mostText/2), slices.Repeat([]int{233}, mostText/2), true)
	wantRunes(t, "as many of two and one more", strings.Repeat("é", mostText/2)+"x", nil, false)
	wantRunes(t, "one rune too many", strings.Repeat("é", mostText/2+1), nil, false)
	wantRunes(t, "as many of four", strings.Repeat("😀", mostText/4), slices.Repeat([]int{0x1f600}, mostText/4), true)
	wantRunes(t, "the last is cut short", strings.Repeat("x", mostText-1)+"\xc3", append(slices.Repeat([]int{'x'}, mostText-1), noRune), true)
	wantRunes(t, "its other byte is one too many", strings.Repeat("x", mostText-1)+"é", nil, false)
	wantRunes(t, "as many bytes that are none", strings.Repeat("\xff", mostText), noRunes(mostText), true)
}

// All texts of two bytes, and all of three and four from bytes beside those that decide.
func TestRunesOfAllShortTexts(t *testing.T) {
	asked := func(text string) {
		want, _ := slowRunes(text)
		if got, good := impl.RunesOf(text); !good || !slices.Equal(got, want) {
			t.Fatalf("%q: %v, want %v, %v", text, got, want, good)
		}
	}
	for first := range 256 {
		for second := range 256 {
			asked(string([]byte{byte(first), byte(second)}))
		}
	}
	few := []byte{'a', 0x7f, 0x80, 0x8f, 0x90, 0x9f, 0xa0, 0xbf, 0xc0, 0xc1, 0xc2, 0xdf, 0xe0, 0xe1, 0xec, 0xed, 0xee, 0xef, 0xf0, 0xf1, 0xf3, 0xf4, 0xf5, 0xf8, 0xff}
	for _, a := range few {
		for _, b := range few {
			for _, c := range few {
				asked(string([]byte{a, b, c}))
				for _, d := range few {
					asked(string([]byte{a, b, c, d}))
				}
			}
		}
	}
}

// Each number that has a sequence comes back from it, and no other does.
func TestRunesOfAllNumbers(t *testing.T) {
	for number := 0; number <= 0x10ffff+1; number++ {
		many := 1
		for _, edge := range []int{128, 2048, 65536} {
			if number >= edge {
				many++
			}
		}
		text := encodedBy(number, many)
		got, good := impl.RunesOf(text)
		if !good {
			t.Fatal(number)
		}
		if within(0xd800, number, 0xdfff) || number > 0x10ffff {
			if !slices.Equal(got, noRunes(len(text))) {
				t.Fatal(number, got)
			}
		} else if len(got) != 1 || got[0] != number {
			t.Fatal(number, got)
		}
	}
}

// wrapCase is a text with its lines.
type wrapCase struct {
	what string
	text string
	wide int
	want []string
}

func wrapsAtBlanks() []wrapCase {
	return []wrapCase{
		{"just so wide", "abcde", 5, []string{"abcde"}},
		{"just so wide, with a blank", "ab de", 5, []string{"ab de"}},
		{"one more", "ab def", 5, []string{"ab", "def"}},
		{"one more, three words", "a b c d", 5, []string{"a b c", "d"}},
		{"a blank just behind", "abcde fg", 5, []string{"abcde", "fg"}},
		{"a blank just at the end", "abcd efg", 5, []string{"abcd", "efg"}},
		{"several blanks just behind", "abcde   fg", 5, []string{"abcde", "fg"}},
		{"several blanks around the end", "abc     fg", 5, []string{"abc", "fg"}},
		{"blanks that begin at the end", "abcd  fg", 5, []string{"abcd", "fg"}},
		{"blanks within stay", "a  b  c  d", 5, []string{"a  b", "c  d"}},
		{"blanks at the end of what fits stay", "ab  ", 5, []string{"ab  "}},
		{"just so wide with blanks", "ab   ", 5, []string{"ab   "}},
		{"blanks at the end of the last line stay", "abcd ef  ", 5, []string{"abcd", "ef  "}},
		{"words of one", "a b c", 1, []string{"a", "b", "c"}},
		{"words of two at one", "ab cd", 1, []string{"a", "b", "c", "d"}},
		{"many blanks at one", "a     b", 1, []string{"a", "b"}},
		{"the last blank counts", "a b cdefgh", 5, []string{"a b", "cdefg", "h"}},
		{"the widest", strings.Repeat("x", 99) + " yz", 100, []string{strings.Repeat("x", 99), "yz"}},
		{"the widest, just behind", strings.Repeat("x", 100) + " yz", 100, []string{strings.Repeat("x", 100), "yz"}},
		{"the widest, one more", strings.Repeat("x", 101), 100, []string{strings.Repeat("x", 100), "x"}},
		{"the widest, just so", strings.Repeat("xyz ", 25), 100, []string{strings.Repeat("xyz ", 25)}},
		{"tabs are no blanks", "ab\tcdef", 5, []string{"ab\tcd", "ef"}},
		{"other ends of lines are none", "ab\rcdef", 5, []string{"ab\rcd", "ef"}},
		{"other white runes are no blanks", "ab\u00a0cd\u3000ef", 5, []string{"ab\u00a0cd", "\u3000ef"}},
	}
}

func wrapsAtEdges() []wrapCase {
	return []wrapCase{
		{"no byte", "", 5, []string{""}},
		{"no byte, one wide", "", 1, []string{""}},
		{"one byte", "a", 1, []string{"a"}},
		{"one blank", " ", 1, []string{" "}},
		{"two blanks", "  ", 1, []string{""}},
		{"blanks alone that fit", "     ", 5, []string{"     "}},
		{"blanks alone", "      ", 5, []string{""}},
		{"many blanks alone", strings.Repeat(" ", 400), 5, []string{""}},
		{"a blank first", " abcdef", 5, []string{"", "abcde", "f"}},
		{"blanks first", "   abcdef", 5, []string{"", "abcde", "f"}},
		{"blanks first, a short word", "  ab cd", 5, []string{"  ab", "cd"}},
		{"blanks first that fit", "  abc", 5, []string{"  abc"}},
		{"blanks first, one too many", "  abcd", 5, []string{"", "abcd"}},
		{"more blanks first than are wide", "        ab", 5, []string{"", "ab"}},
		{"just as many blanks first", "     ab", 5, []string{"", "ab"}},
		{"blanks at the beginning of a line", "xy\n   abcdef", 5, []string{"xy", "", "abcde", "f"}},
		{"a long word first", "abcdefgh ij", 5, []string{"abcde", "fgh", "ij"}},
		{"a long word first, the rest fits", "abcdefgh i", 5, []string{"abcde", "fgh i"}},
		{"a longer word", "abcdefghijkl", 5, []string{"abcde", "fghij", "kl"}},
		{"twice as long", "abcdefghij", 5, []string{"abcde", "fghij"}},
		{"a long word behind a blank", "ab cdefghij", 5, []string{"ab", "cdefg", "hij"}},
		{"a long word behind blanks", "abcde   fghijkl", 5, []string{"abcde", "fghij", "kl"}},
		{"one wide", "abc", 1, []string{"a", "b", "c"}},
		{"nothing behind the blanks", "abcde ", 5, []string{"abcde"}},
		{"nothing behind several", "abcde    ", 5, []string{"abcde"}},
		{"nothing behind, the last word shorter", "abc      ", 5, []string{"abc"}},
		{"nothing behind, a later line", "abcde fgh   ", 5, []string{"abcde", "fgh"}},
		{"nothing behind, ahead of a byte 10", "abcde  \nfg", 5, []string{"abcde", "fg"}},
		{"nothing behind, ahead of two", "abcde  \n\nfg", 5, []string{"abcde", "", "fg"}},
		{"nothing behind, a byte 10 last", "abcde  \n", 5, []string{"abcde", ""}},
		{"blanks alone ahead of a byte 10", "      \nab", 5, []string{"", "ab"}},
		{"blanks alone behind a byte 10", "ab\n      ", 5, []string{"ab", ""}},
	}
}

func wrapsAtEnds() []wrapCase {
	return []wrapCase{
		{"a byte 10", "ab\ncd", 5, []string{"ab", "cd"}},
		{"a byte 10 alone", "\n", 5, []string{"", ""}},
		{"first", "\nab", 5, []string{"", "ab"}},
		{"last", "ab\n", 5, []string{"ab", ""}},
		{"twice", "ab\n\ncd", 5, []string{"ab", "", "cd"}},
		{"twice first", "\n\nab", 5, []string{"", "", "ab"}},
		{"twice last", "ab\n\n", 5, []string{"ab", "", ""}},
		{"just at the break", "abcde\nfg", 5, []string{"abcde", "fg"}},
		{"just at the break, twice", "abcde\n\nfg", 5, []string{"abcde", "", "fg"}},
		{"just behind the break", "abcdef\ng", 5, []string{"abcde", "f", "g"}},
		{"just ahead of the break", "abcd\nef", 5, []string{"abcd", "ef"}},
		{"behind a blank at the break", "abcde \nfg", 5, []string{"abcde", "fg"}},
		{"behind a blank that fits", "abcd \nfg", 5, []string{"abcd ", "fg"}},
		{"blanks behind it stay", "ab\n  cd", 5, []string{"ab", "  cd"}},
		{"blanks on both sides stay", "ab \n cd", 5, []string{"ab ", " cd"}},
		{"at the break with blanks behind it", "abcde\n  fg", 5, []string{"abcde", "  fg"}},
		{"blanks on both sides of a break", "abcde  \n  fg", 5, []string{"abcde", "  fg"}},
		{"it begins to count anew", "abc\ndef\nghij kl", 5, []string{"abc", "def", "ghij", "kl"}},
		{"a blank ahead of it is not for behind it", "a b\ncdefgh", 5, []string{"a b", "cdefg", "h"}},
		{"as many as may be", strings.Repeat("\n", 400), 1, slices.Repeat([]string{""}, 401)},
		{"at one wide", "a\nb", 1, []string{"a", "b"}},
	}
}

func wrapsOfRunes() []wrapCase {
	return []wrapCase{
		{"runes of two bytes", "éééééé", 5, []string{"ééééé", "é"}},
		{"just so many runes", "é€😀aé", 5, []string{"é€😀aé"}},
		{"one more", "é€😀aéb", 5, []string{"é€😀aé", "b"}},
		{"a blank just behind runes", "é€😀aé b", 5, []string{"é€😀aé", "b"}},
		{"a blank between runes", "é€ 😀aéb", 5, []string{"é€", "😀aéb"}},
		{"bytes that are none", "\xff\xff\xff\xff\xff\xff", 5, []string{"\xff\xff\xff\xff\xff", "\xff"}},
		{"a sequence that is cut short counts each byte", "\xf0\x9f\x98abc", 5, []string{"\xf0\x9f\x98ab", "c"}},
		{"it may be broken in two", "abcd\xe2\x82", 5, []string{"abcd\xe2", "\x82"}},
		{"a sequence longer than it must be, of a blank", "abc\xc0\xa0de", 5, []string{"abc\xc0\xa0", "de"}},
		{"a surrogate counts three", "ab\xed\xa0\x80c", 5, []string{"ab\xed\xa0\x80", "c"}},
		{"above all runes counts four", "a\xf4\x90\x80\x80b", 5, []string{"a\xf4\x90\x80\x80", "b"}},
		{"a blank cuts a sequence short", "\xf0\x9f \x98\x80abc", 5, []string{"\xf0\x9f", "\x98\x80abc"}},
		{"a byte 10 cuts a sequence short", "\xf0\x9f\n\x98\x80", 5, []string{"\xf0\x9f", "\x98\x80"}},
		{"65533 itself", "\ufffd\ufffdabcd", 5, []string{"\ufffd\ufffdabc", "d"}},
		{"as many bytes as may be", strings.Repeat("é", 200), 100, []string{strings.Repeat("é", 100), strings.Repeat("é", 100)}},
		{"nought is a rune", "\x00\x00 \x00\x00", 2, []string{"\x00\x00", "\x00\x00"}},
	}
}

func TestWrapTold(t *testing.T) {
	for _, c := range slices.Concat(wrapsAtBlanks(), wrapsAtEdges(), wrapsAtEnds(), wrapsOfRunes()) {
		wantWrap(t, c.what, c.text, c.wide, c.want, true)
		wantSlowWrap(t, c.what, c.text, c.wide)
	}
}

func TestWrapOfWrongInputs(t *testing.T) {
	texts := []string{"", "a", " ", "\n", "ab cd ef", strings.Repeat("x", mostText), strings.Repeat("x y\n", mostText/4), strings.Repeat("\xff ", mostText/2)}
	for _, text := range texts {
		for _, wide := range []int{1, 2, 3, 5, 50, 99, 100} {
			wantSlowWrap(t, "good ones", text, wide)
		}
		for _, wide := range append(farNumbers(), 0, -1, 101, -100, 256, 1<<32, 1<<32+5) {
			wantWrap(t, "not as wide", text, wide, nil, false)
		}
	}
	for _, text := range []string{"x", " ", "\n", "\xff", "a b", "a\n", "é ", "éa"} {
		long := strings.Repeat(text, mostText)[:mostText]
		for _, wide := range []int{1, 7, 100} {
			wantSlowWrap(t, "as long as may be", long, wide)
			wantWrap(t, "one byte too long", long+text[:1], wide, nil, false)
			wantWrap(t, "far too long", strings.Repeat(long, 9), wide, nil, false)
		}
	}
	wantWrap(t, "too long by its bytes alone", strings.Repeat("é", mostText/2+1), 100, nil, false)
}

// keepsAllRunes asks for what promise 18 says of lines: none is wider than told, and nothing but blanks and ends of lines is lost.
func keepsAllRunes(t *testing.T, text string, wide int, got []string) {
	t.Helper()
	for _, line := range got {
		runes, good := impl.RunesOf(line)
		if !good || len(runes) > wide || strings.Contains(line, "\n") {
			t.Fatalf("%q at %d: a line is %q", text, wide, line)
		}
	}
	bare := strings.NewReplacer(" ", "", "\n", "")
	if bare.Replace(text) != bare.Replace(strings.Join(got, "")) {
		t.Fatalf("%q at %d: runes are lost: %q", text, wide, got)
	}
	if len(got) <= strings.Count(text, "\n") {
		t.Fatalf("%q at %d: ends of lines are lost: %q", text, wide, got)
	}
	// The lines stand in the text one behind the other, with blanks and at most one byte 10 between two.
	rest := text
	for i, line := range got {
		cut := len(rest) - len(strings.TrimLeft(rest, " "))
		for lost := range cut + 1 {
			if strings.HasPrefix(rest[lost:], line) {
				rest = rest[lost+len(line):]
				break
			}
			if lost == cut {
				t.Fatalf("%q at %d: line %d is not there: %q", text, wide, i, got)
			}
		}
		if head := strings.TrimLeft(rest, " "); strings.HasPrefix(head, "\n") {
			rest = head[1:]
		}
	}
	if strings.Trim(rest, " ") != "" {
		t.Fatalf("%q at %d: %q is left: %q", text, wide, rest, got)
	}
}

// All texts of up to seven of a letter, a blank and a byte 10, and of up to five with other runes and bytes.
func TestWrapOfAllShortTexts(t *testing.T) {
	broken := 0
	for _, c := range []struct {
		many  int
		units []string
	}{{7, []string{"a", " ", "\n"}}, {5, []string{"a", " ", "\n", "é", "\xff", "\xe2\x82"}}} {
		texts := []string{""}
		for from := 0; from < len(texts); from++ {
			text := texts[from]
			for wide := 1; wide <= 5; wide++ {
				want, _ := slowWrap(text, wide)
				got, good := impl.WrapText(text, wide)
				if !good || !slices.Equal(got, want) {
					t.Fatalf("%q at %d: %q, want %q, %v", text, wide, got, want, good)
				}
				keepsAllRunes(t, text, wide, got)
				if len(got) > 1+strings.Count(text, "\n") {
					broken++
				}
			}
			if len(slowUnits(text)) < c.many {
				for _, unit := range c.units {
					texts = append(texts, text+unit)
				}
			}
		}
	}
	if broken < 1000 {
		t.Error("little was broken", broken)
	}
}

func coinText(next func(int) int, many int) string {
	units := []string{"a", "b", "xyz", " ", " ", "  ", "\n", "é", "€", "😀", "\xff", "\xe2\x82", "lorem", "\xed\xa0\x80", ",", "\t"}
	out, least := "", next(2)*4
	for range many {
		unit := coinOf(next, units)
		if next(8) < least {
			unit = coinOf(next, units[:6])
		}
		if len(out)+len(unit) <= mostText {
			out += unit
		}
	}
	return out
}

// Promise 18.
func TestLinesAreNoWiderAndLoseNoRune(t *testing.T) {
	lines, longest := 0, 0
	for seed := range 2500 {
		next := coinRow(seed + 18200)
		text := coinText(next, coinOf(next, []int{3, 10, 40, 150, 400}))
		for _, wide := range []int{1, 2, 3, 1 + next(12), 1 + next(40), 1 + next(100), 100} {
			wantSlowWrap(t, "coins", text, wide)
			got, good := impl.WrapText(text, wide)
			if !good {
				t.Fatal(text, wide)
			}
			keepsAllRunes(t, text, wide, got)
			lines += len(got)
			// A line that fits is not broken again.
			for _, line := range got {
				again, good := impl.WrapText(line, wide)
				if !good || len(again) != 1 || again[0] != line {
					t.Fatalf("%q at %d: %q again: %q", text, wide, line, again)
				}
				longest = max(longest, len(slowUnits(line)))
			}
		}
		wantSlowRunes(t, "coins", text)
	}
	if lines < 100000 || longest != mostWide {
		t.Error(lines, longest)
	}
}

func TestFocusTold(t *testing.T) {
	cross := placedOnes(10, 10, 2, 2, 0, 10, 2, 2, 20, 10, 2, 2, 10, 0, 2, 2, 10, 20, 2, 2)
	grid := placedOnes(0, 0, 4, 4, 10, 0, 4, 4, 20, 0, 4, 4, 0, 10, 4, 4, 10, 10, 4, 4, 20, 10, 4, 4, 0, 20, 4, 4, 10, 20, 4, 4, 20, 20, 4, 4)
	for _, c := range []struct {
		what string
		l    []impl.Placed
		at   int
		want [4]int
	}{
		{"one alone", placedOnes(5, 5, 2, 2), 0, [4]int{-1, -1, -1, -1}},
		{"a cross, from its middle", cross, 0, [4]int{1, 2, 3, 4}},
		{"a cross, from the left", cross, 1, [4]int{-1, 0, 3, 4}},
		{"a cross, from the right", cross, 2, [4]int{0, -1, 3, 4}},
		{"a cross, from above", cross, 3, [4]int{1, 2, -1, 0}},
		{"a cross, from below", cross, 4, [4]int{1, 2, 0, -1}},
		{"a grid, from its middle", grid, 4, [4]int{3, 5, 1, 7}},
		{"a grid, from its first corner", grid, 0, [4]int{-1, 1, -1, 3}},
		{"a grid, from its last corner", grid, 8, [4]int{7, -1, 5, -1}},
		{"all middles alike", placedOnes(5, 5, 2, 2, 4, 4, 4, 4, 6, 6, 0, 0, 5, 5, 2, 2), 1, [4]int{-1, -1, -1, -1}},
		{"middles alike across", placedOnes(5, 5, 2, 2, 5, 9, 2, 2, 4, 1, 4, 2), 0, [4]int{-1, -1, 2, 1}},
		{"middles alike along", placedOnes(5, 5, 2, 2, 9, 5, 2, 2, 1, 4, 2, 4), 0, [4]int{2, 1, -1, -1}},
		{"the way across counts twice", placedOnes(10, 10, 0, 0, 14, 13, 0, 0, 19, 10, 0, 0), 0, [4]int{-1, 2, -1, 1}},
		{"just as far, the first", placedOnes(10, 10, 0, 0, 14, 13, 0, 0, 20, 10, 0, 0), 0, [4]int{-1, 1, -1, 1}},
		{"just as far, the other first", placedOnes(10, 10, 0, 0, 20, 10, 0, 0, 14, 13, 0, 0), 0, [4]int{-1, 1, -1, 2}},
		{"several at the same place", placedOnes(1, 1, 0, 0, 9, 9, 2, 2, 9, 9, 2, 2, 8, 8, 4, 4), 0, [4]int{-1, 1, -1, 1}},
		{"several on both sides", placedOnes(5, 5, 0, 0, 7, 3, 0, 0, 7, 7, 0, 0, 3, 7, 0, 0, 3, 3, 0, 0), 0, [4]int{3, 1, 1, 2}},
		{"further by half a unit", placedOnes(5, 5, 0, 0, 5, 5, 1, 0, 5, 5, 0, 1), 0, [4]int{-1, 1, -1, 2}},
		{"the wide one's middle is further", placedOnes(0, 0, 10, 2, 4, 0, 3, 2), 0, [4]int{-1, 1, -1, -1}},
		{"the wide one's middle, back", placedOnes(0, 0, 10, 2, 4, 0, 3, 2), 1, [4]int{0, -1, -1, -1}},
		{"a nearer edge is not a nearer middle", placedOnes(0, 0, 2, 2, 3, 0, 40, 2, 15, 0, 2, 2), 0, [4]int{-1, 2, -1, -1}},
		{"itself is none of them", placedOnes(3, 3, 2, 2, 50, 50, 2, 2), 1, [4]int{0, -1, 0, -1}},
		{"from end to end", placedOnes(0, 0, 0, 0, 40000, 40000, 40000, 40000), 0, [4]int{-1, 1, -1, 1}},
		{"from end to end, back", placedOnes(0, 0, 0, 0, 40000, 40000, 40000, 40000), 1, [4]int{0, -1, 0, -1}},
	} {
		for way, want := range c.want {
			wantFocus(t, c.what, c.l, c.at, way, want, true)
			wantSlowFocus(t, c.what, c.l, c.at, way)
		}
	}
}

func TestFocusAtTheMost(t *testing.T) {
	full := manyPlaced(mostScreen)
	for at := range mostScreen {
		ahead, behind := at-1, at+1
		if behind == mostScreen {
			behind = -1
		}
		wantFocus(t, "a row of many", full, at, toLeft, ahead, true)
		wantFocus(t, "a row of many", full, at, toRight, behind, true)
		wantFocus(t, "a row of many", full, at, toUp, ahead, true)
		wantFocus(t, "a row of many", full, at, toDown, behind, true)
		for way := range 4 {
			wantFocus(t, "one too many", manyPlaced(mostScreen+1), at, way, 0, false)
		}
	}
}

func TestFocusOfWrongInputs(t *testing.T) {
	for _, many := range []int{0, 1, 2, 39, 40, 41, 500} {
		l := manyPlaced(many)
		for _, at := range append(farNumbers(), -1, 0, many/2, many-1, many, many+1, 1<<32, -1<<32) {
			for _, way := range append(farNumbers(), -1, 0, 1, 2, 3, 4, 5, 1<<32, 1<<32+1) {
				wantSlowFocus(t, "any", l, at, way)
			}
		}
	}
	for at := range 3 {
		for field := range 4 {
			for _, number := range append(beyond(mostPlaced), 0, 1, mostRoom, mostRoom+1, mostPlaced-1, mostPlaced) {
				l := placedOnes(10, 10, 2, 2, 20, 20, 4, 4, 5, 30, 2, 8)
				*[]*int{&l[at].X, &l[at].Y, &l[at].W, &l[at].H}[field] = number
				for from := range 3 {
					for way := range 4 {
						wantSlowFocus(t, "any number", l, from, way)
						if !within(0, number, mostPlaced) {
							wantFocus(t, "a number that is none", l, from, way, 0, false)
						}
					}
				}
			}
		}
	}
}

func coinPlaced(next func(int) int, many int, far int) []impl.Placed {
	var out []impl.Placed
	for range many {
		out = append(out, impl.Placed{X: next(far), Y: next(far), W: next(far), H: next(far)})
	}
	return out
}

func TestFocusOfCoins(t *testing.T) {
	none, some := 0, 0
	for seed := range 1500 {
		next := coinRow(seed + 18300)
		l := coinPlaced(next, 1+next(12), coinOf(next, []int{2, 3, 5, 20, 4000}))
		for at := range l {
			for way := range 4 {
				wantSlowFocus(t, "coins", l, at, way)
				to, good := impl.NextFocus(l, at, way)
				if !good {
					t.Fatal(l, at, way)
				}
				if to < 0 {
					none++
					continue
				}
				some++
				if back, _ := impl.NextFocus(l, to, way^1); to == at || back < 0 {
					t.Fatal("there is no way back", l, at, way, to, back)
				}
			}
		}
	}
	if none < 3000 || some < 3000 {
		t.Error(none, some)
	}
}

// What LayOut gives is gone through by NextFocus, as long as it lies within its bounds.
func TestFocusGoesThroughALayOut(t *testing.T) {
	l := boxes(rowBox(-1, 0, 0, 2), columnBox(0, 20, 0, 1), columnBox(0, 0, 1, 1), rowBox(1, 0, 1, 0), rowBox(1, 0, 1, 0), rowBox(2, 4, 0, 0), rowBox(2, 0, 1, 0))
	placed, good := impl.LayOut(l, 104, 44)
	told := placedOnes(0, 0, 104, 44, 2, 2, 20, 40, 22, 2, 80, 40, 3, 3, 18, 19, 3, 22, 18, 19, 23, 3, 78, 4, 23, 7, 78, 34)
	if !good || !slices.Equal(placed, told) {
		t.Fatal(placed, good)
	}
	leaves := placed[3:]
	for way, want := range [][4]int{{-1, -1, 0, 1}, {2, 3, -1, -1}, {2, 0, -1, 2}, {1, -1, 3, 1}} {
		for at := range leaves {
			wantFocus(t, "a lay out", leaves, at, way, want[at], true)
			wantSlowFocus(t, "a lay out", leaves, at, way)
		}
	}
}

// strangeScreen gives a number at or beyond a limit of this chapter, or a small one.
func strangeScreen(next func(int) int) int {
	return coinOf(next, append(farNumbers(), -2, -1, 0, 1, 2, 3, 4, 39, 40, 41, 99, 100, 101, 1000, 1001, 9999, 10000, 10001, 40000, 40001, 1<<32, math.MinInt))
}

func spoiledBoxes(l []impl.Box, next func(int) int) []impl.Box {
	out := slices.Clone(l)
	b := &out[next(len(out))]
	*coinOf(next, []*int{&b.Up, &b.Lay, &b.Least, &b.Grow, &b.Pad}) = strangeScreen(next)
	return out
}

// Promise 29.
func TestScreensAnswerAtAnyArguments(t *testing.T) {
	kinds := map[string]int{}
	for seed := range 2500 {
		next := coinRow(seed + 2918)
		l, wide, high := coinScreen(next, 1+next(42)), next(300), next(300)
		least, grow := counted(next(42)), counted(next(42))
		placed, at, way := coinPlaced(next, next(42), 4000), next(20), next(4)
		text := coinText(next, next(200))
		if next(3) > 0 {
			least = least[:min(len(least), len(grow))]
			grow = grow[:len(least)]
		}
		if next(3) == 0 {
			l = spoiledBoxes(l, next)
		}
		if len(least) > 0 && next(4) == 0 {
			least[next(len(least))] = strangeScreen(next)
		}
		if len(grow) > 0 && next(4) == 0 {
			grow[next(len(grow))] = strangeScreen(next)
		}
		if len(placed) > 0 && next(4) == 0 {
			placed[next(len(placed))] = impl.Placed{X: strangeScreen(next), Y: strangeScreen(next), W: next(9), H: next(9)}
		}
		if next(4) == 0 {
			wide, high = strangeScreen(next), strangeScreen(next)
			at, way = strangeScreen(next), strangeScreen(next)
		}
		if next(4) == 0 {
			text += strings.Repeat(coinOf(next, []string{"x", " ", "\n", "é", "\xff"}), next(500))
		}
		for what, good := range map[string]bool{"boxes": slowGoodScreen(l), "lists": slowGoodLists(least, grow), "placed": slowGoodPlaced(placed), "text": len(text) <= mostText} {
			kinds[fmt.Sprint(what, " ", good)]++
		}
		wantGoodBoxes(t, "any", l, slowGoodScreen(l))
		wantSlowShare(t, "any", wide, least, grow)
		wantSlowLayOut(t, "any", l, wide, high)
		wantSlowRunes(t, "any", text)
		wantSlowWrap(t, "any", text, high)
		wantSlowWrap(t, "any", text, 1+next(100))
		wantSlowFocus(t, "any", placed, at, way)
	}
	for _, kind := range []string{"boxes true", "boxes false", "lists true", "lists false", "placed true", "placed false", "text true", "text false"} {
		if kinds[kind] < 200 {
			t.Error(kinds)
		}
	}
}

package tests

import (
	"fmt"
	"math"
	"math/big"
	"slices"
	"strconv"
	"strings"
	"testing"

	"loop.example/g00064/impl"
)

const mostItems = 60
const mostSide = 24
const mostDepth = 4095
const mostColor = 16777215

// lastKey is the greatest key of all: all of its bits are taken.
const lastKey = 1<<32 - 1

// wholeView sees all that lies at 0 and right of or below it.
var wholeView = impl.Placed{W: mostRoom, H: mostRoom}

// itemOf gives an item of one unit at 0, 0.
func itemOf(layer int, material int, mesh int, depth int, clear bool) impl.Item {
	return impl.Item{Layer: layer, Material: material, Mesh: mesh, Depth: depth, Clear: clear, Box: impl.Placed{W: 1, H: 1}}
}

func boxedItem(x int, y int, w int, h int) impl.Item {
	return impl.Item{Box: impl.Placed{X: x, Y: y, W: w, H: h}}
}

func boxless(x impl.Item) impl.Item {
	x.Box = impl.Placed{}
	return x
}

func manyItems(many int) []impl.Item {
	var out []impl.Item
	for i := range many {
		out = append(out, itemOf(i%8, i%3, i%2, i, i%5 == 0))
	}
	return out
}

// itemFields gives the places of all numbers of an item, by which they are spoiled.
func itemFields(x *impl.Item) []*int {
	return []*int{&x.Layer, &x.Material, &x.Mesh, &x.Depth, &x.Box.X, &x.Box.Y, &x.Box.W, &x.Box.H}
}

// itemBounds gives the least and the most of each number of an item, in the order of itemFields.
func itemBounds() [][2]int {
	return [][2]int{{0, 7}, {0, 255}, {0, 255}, {0, 4095}, {-10000, 10000}, {-10000, 10000}, {0, 10000}, {0, 10000}}
}

// drawEdges holds the numbers that the chapter names, and those beside them.
func drawEdges() []int {
	return append(farNumbers(), -1, 0, 1, 6, 7, 8, 254, 255, 256, 4094, 4095, 4096, -10001, -10000, -9999, 9999, 10000, 10001, 1<<32, 1<<32+1, -1<<32)
}

func slowGoodArea(b impl.Placed) bool {
	return within(-10000, b.X, 10000) && within(-10000, b.Y, 10000) && within(0, b.W, 10000) && within(0, b.H, 10000)
}

func slowGoodItem(x impl.Item) bool {
	good := true
	for i, field := range itemFields(&x) {
		good = good && within(itemBounds()[i][0], *field, itemBounds()[i][1])
	}
	return good
}

func slowGoodItems(l []impl.Item) bool {
	return len(l) <= 60 && !slices.ContainsFunc(l, func(x impl.Item) bool { return !slowGoodItem(x) })
}

// slowKey writes the bits of a key one behind the other, and reads them as one number.
func slowKey(x impl.Item) (int, bool) {
	if !slowGoodItem(x) {
		return 0, false
	}
	bits := fmt.Sprintf("%03b0%08b%08b%012b", x.Layer, x.Material, x.Mesh, x.Depth)
	if x.Clear {
		bits = fmt.Sprintf("%03b1%012b%08b%08b", x.Layer, 4095-x.Depth, x.Material, x.Mesh)
	}
	key, err := strconv.ParseInt(bits, 2, 64)
	return int(key), err == nil
}

// slowParts cuts the bits of a key as a text.
func slowParts(key int) (impl.Item, bool) {
	bits := fmt.Sprintf("%032b", key)
	if key < 0 || len(bits) != 32 {
		return impl.Item{}, false
	}
	read := func(from int, to int) int {
		number, _ := strconv.ParseInt(bits[from:to], 2, 64)
		return int(number)
	}
	if bits[3] == '1' {
		return impl.Item{Layer: read(0, 3), Depth: 4095 - read(4, 16), Material: read(16, 24), Mesh: read(24, 32), Clear: true}, true
	}
	return impl.Item{Layer: read(0, 3), Material: read(4, 12), Mesh: read(12, 20), Depth: read(20, 32)}, true
}

// slowCommon gives how long the stretch is that two have in common, or a number that is not above 0.
func slowCommon(a int, aLong int, b int, bLong int) int {
	from, to := a, a+aLong
	if b > from {
		from = b
	}
	if b+bLong < to {
		to = b + bLong
	}
	return to - from
}

func slowSeen(l []impl.Item, view impl.Placed) ([]int, bool) {
	if !slowGoodItems(l) || !slowGoodArea(view) {
		return nil, false
	}
	var out []int
	for i, x := range l {
		if slowCommon(x.Box.X, x.Box.W, view.X, view.W) > 0 && slowCommon(x.Box.Y, x.Box.H, view.Y, view.H) > 0 {
			out = append(out, i)
		}
	}
	return out, true
}

// slowLots takes the least one that is left until none is, and opens a lot where its look is another.
func slowLots(l []impl.Item, view impl.Placed) ([]impl.Lot, bool) {
	left, good := slowSeen(l, view)
	if !good {
		return nil, false
	}
	var out []impl.Lot
	look := ""
	for len(left) > 0 {
		least := 0
		for i := range left {
			key, _ := slowKey(l[left[i]])
			if leastKey, _ := slowKey(l[left[least]]); key < leastKey {
				least = i
			}
		}
		number := left[least]
		left = slices.Delete(left, least, least+1)
		x := l[number]
		if own := fmt.Sprint(x.Layer, x.Clear, x.Material, x.Mesh); own != look {
			look = own
			out = append(out, impl.Lot{Material: x.Material, Mesh: x.Mesh})
		}
		out[len(out)-1].Items = append(out[len(out)-1].Items, number)
	}
	return out, true
}

func slowGoodSheet(s impl.Sheet) bool {
	good := within(1, s.Wide, 24) && within(1, s.High, 24) && len(s.Pixels) == s.Wide*s.High
	for _, pixel := range s.Pixels {
		good = good && within(0, pixel, 16777215)
	}
	return good
}

func slowPaintBox(s impl.Sheet, b impl.Placed, color int) (impl.Sheet, bool) {
	if !slowGoodSheet(s) || !slowGoodArea(b) || !within(0, color, 16777215) {
		return impl.Sheet{}, false
	}
	out := impl.Sheet{Wide: s.Wide, High: s.High}
	for y := range s.High {
		for x := range s.Wide {
			pixel := s.Pixels[y*s.Wide+x]
			if b.X <= x && x < b.X+b.W && b.Y <= y && y < b.Y+b.H {
				pixel = color
			}
			out.Pixels = append(out.Pixels, pixel)
		}
	}
	return out, true
}

// slowWalk gives the places of a line along one of x and y: it goes on by what is over, without a division.
func slowWalk(from int, to int, steps int) []int {
	out := []int{from}
	at, over := from, steps
	for range steps {
		over += 2 * (to - from)
		for over >= 2*steps {
			over -= 2 * steps
			at++
		}
		for over < 0 {
			over += 2 * steps
			at--
		}
		out = append(out, at)
	}
	return out
}

func slowPaintLine(s impl.Sheet, x0 int, y0 int, x1 int, y1 int, color int) (impl.Sheet, bool) {
	good := slowGoodSheet(s) && within(0, color, 16777215)
	for _, end := range []int{x0, y0, x1, y1} {
		good = good && within(-10000, end, 10000)
	}
	if !good {
		return impl.Sheet{}, false
	}
	out := impl.Sheet{Wide: s.Wide, High: s.High, Pixels: append([]int{}, s.Pixels...)}
	steps := max(x1-x0, x0-x1, y1-y0, y0-y1)
	xs, ys := slowWalk(x0, x1, steps), slowWalk(y0, y1, steps)
	for k := range xs {
		if within(0, xs[k], s.Wide-1) && within(0, ys[k], s.High-1) {
			out.Pixels[ys[k]*s.Wide+xs[k]] = color
		}
	}
	return out, true
}

// slowSheetSum reads 7 and the pixels as one great number of digits of 31, and takes its rest once.
func slowSheetSum(s impl.Sheet) (int, bool) {
	if !slowGoodSheet(s) {
		return 0, false
	}
	great := big.NewInt(7)
	for _, pixel := range s.Pixels {
		great.Mul(great, big.NewInt(31))
		great.Add(great, big.NewInt(int64(pixel)))
	}
	return int(great.Mod(great, big.NewInt(1000003)).Int64()), true
}

func wantGoodItem(t *testing.T, what string, x impl.Item, want bool) {
	t.Helper()
	if got := purely(t, "GoodItem", impl.GoodItem, x); got[0] != want || slowGoodItem(x) != want {
		t.Errorf("%s: GoodItem %v = %v, want %v", what, x, got, want)
	}
}

func wantKey(t *testing.T, what string, x impl.Item, want int, good bool) {
	t.Helper()
	if got := purely(t, "SortKey", impl.SortKey, x); got[0] != want || got[1] != good {
		t.Errorf("%s: SortKey %v = %v, want %d, %v", what, x, got, want, good)
	}
}

func wantSlowKey(t *testing.T, what string, x impl.Item) {
	t.Helper()
	want, good := slowKey(x)
	wantKey(t, what, x, want, good)
}

func wantParts(t *testing.T, what string, key int, want impl.Item, good bool) {
	t.Helper()
	if got := purely(t, "KeyParts", impl.KeyParts, key); got[0] != want || got[1] != good {
		t.Errorf("%s: KeyParts %d = %v, want %v, %v", what, key, got, want, good)
	}
}

func wantSlowParts(t *testing.T, what string, key int) {
	t.Helper()
	want, good := slowParts(key)
	wantParts(t, what, key, want, good)
}

func wantSeen(t *testing.T, what string, l []impl.Item, view impl.Placed, want []int, good bool) {
	t.Helper()
	if got := purely(t, "Seen", impl.Seen, l, view); !alike(got[0], want) || got[1] != good {
		t.Errorf("%s: Seen %v, %v = %v, want %v, %v", what, l, view, got, want, good)
	}
}

func wantLots(t *testing.T, what string, l []impl.Item, view impl.Placed, want []impl.Lot, good bool) {
	t.Helper()
	if got := purely(t, "LotsOf", impl.LotsOf, l, view); !alike(got[0], want) || got[1] != good {
		t.Errorf("%s: LotsOf %v, %v = %v, want %v, %v", what, l, view, got, want, good)
	}
}

// wantSlowDrawn asks for what is seen and for its lots as the slow ones give them.
func wantSlowDrawn(t *testing.T, what string, l []impl.Item, view impl.Placed) {
	t.Helper()
	seen, good := slowSeen(l, view)
	wantSeen(t, what, l, view, seen, good)
	lots, good := slowLots(l, view)
	wantLots(t, what, l, view, lots, good)
}

func wantNoDrawn(t *testing.T, what string, l []impl.Item, view impl.Placed) {
	t.Helper()
	wantSeen(t, what, l, view, nil, false)
	wantLots(t, what, l, view, nil, false)
}

func wantPaintBox(t *testing.T, what string, s impl.Sheet, b impl.Placed, color int, want impl.Sheet, good bool) {
	t.Helper()
	if got := purely(t, "PaintBox", impl.PaintBox, s, b, color); !alike(got[0], want) || got[1] != good {
		t.Errorf("%s: PaintBox %v, %v, %d = %v, want %v, %v", what, s, b, color, got, want, good)
	}
}

func wantSlowPaintBox(t *testing.T, what string, s impl.Sheet, b impl.Placed, color int) {
	t.Helper()
	want, good := slowPaintBox(s, b, color)
	wantPaintBox(t, what, s, b, color, want, good)
}

func wantPaintLine(t *testing.T, what string, s impl.Sheet, ends [4]int, color int, want impl.Sheet, good bool) {
	t.Helper()
	if got := purely(t, "PaintLine", impl.PaintLine, s, ends[0], ends[1], ends[2], ends[3], color); !alike(got[0], want) || got[1] != good {
		t.Errorf("%s: PaintLine %v, %v, %d = %v, want %v, %v", what, s, ends, color, got, want, good)
	}
}

func wantSlowPaintLine(t *testing.T, what string, s impl.Sheet, ends [4]int, color int) {
	t.Helper()
	want, good := slowPaintLine(s, ends[0], ends[1], ends[2], ends[3], color)
	wantPaintLine(t, what, s, ends, color, want, good)
}

func wantSheetSum(t *testing.T, what string, s impl.Sheet, want int, good bool) {
	t.Helper()
	if got := purely(t, "SheetSum", impl.SheetSum, s); got[0] != want || got[1] != good {
		t.Errorf("%s: SheetSum %v = %v, want %d, %v", what, s, got, want, good)
	}
}

// wantSheetTaken asks all functions of sheets whether they take one.
func wantSheetTaken(t *testing.T, what string, s impl.Sheet, want bool) {
	t.Helper()
	if got := purely(t, "GoodSheet", impl.GoodSheet, s); got[0] != want || slowGoodSheet(s) != want {
		t.Errorf("%s: GoodSheet %v = %v, want %v", what, s, got, want)
	}
	wantSlowPaintBox(t, what, s, impl.Placed{X: 1, W: 2, H: 2}, 9)
	wantSlowPaintLine(t, what, s, [4]int{0, 0, 3, 2}, 9)
	sum, good := slowSheetSum(s)
	wantSheetSum(t, what, s, sum, good)
	if good != want {
		t.Errorf("%s: %v", what, s)
	}
}

func TestDrawConstants(t *testing.T) {
	if impl.MaxItems != mostItems || impl.MaxSide != mostSide || impl.MaxDepth != mostDepth {
		t.Error(impl.MaxItems, impl.MaxSide, impl.MaxDepth)
	}
}

func TestGoodItems(t *testing.T) {
	wantGoodItem(t, "of noughts", impl.Item{}, true)
	wantGoodItem(t, "clear, of noughts", impl.Item{Clear: true}, true)
	most := impl.Item{Layer: 7, Material: 255, Mesh: 255, Depth: 4095, Clear: true, Box: impl.Placed{X: 10000, Y: 10000, W: 10000, H: 10000}}
	wantGoodItem(t, "all at the most", most, true)
	least := impl.Item{Box: impl.Placed{X: -10000, Y: -10000}}
	wantGoodItem(t, "all at the least", least, true)
	for _, from := range []impl.Item{{}, {Clear: true}, most, least, itemOf(3, 40, 50, 600, false)} {
		for field, bounds := range itemBounds() {
			for _, number := range drawEdges() {
				x := from
				*itemFields(&x)[field] = number
				good := within(bounds[0], number, bounds[1])
				wantGoodItem(t, "one number", x, good)
				wantSlowKey(t, "one number", x)
				if key, taken := impl.SortKey(x); taken != good || !good && key != 0 {
					t.Error("SortKey takes", x, key, taken)
				}
			}
		}
	}
}

func TestKeysTold(t *testing.T) {
	for _, c := range []struct {
		what string
		x    impl.Item
		want int
	}{
		{"the least of all", itemOf(0, 0, 0, 0, false), 0},
		{"depth", itemOf(0, 0, 0, 1, false), 1},
		{"depth at the most", itemOf(0, 0, 0, 4095, false), 4095},
		{"mesh", itemOf(0, 0, 1, 0, false), 4096},
		{"mesh at the most", itemOf(0, 0, 255, 0, false), 255 * 4096},
		{"material", itemOf(0, 1, 0, 0, false), 1048576},
		{"material at the most", itemOf(0, 255, 0, 0, false), 255 * 1048576},
		{"each part", itemOf(1, 2, 3, 4, false), 536870912 + 2*1048576 + 3*4096 + 4},
		{"the greatest that is not clear, of layer 0", itemOf(0, 255, 255, 4095, false), 268435455},
		{"the least clear one: furthest behind", itemOf(0, 0, 0, 4095, true), 268435456},
		{"clear, mesh", itemOf(0, 0, 1, 4095, true), 268435457},
		{"clear, mesh at the most", itemOf(0, 0, 255, 4095, true), 268435456 + 255},
		{"clear, material", itemOf(0, 1, 0, 4095, true), 268435456 + 256},
		{"clear, material at the most", itemOf(0, 255, 0, 4095, true), 268435456 + 255*256},
		{"clear, nearer", itemOf(0, 0, 0, 4094, true), 268435456 + 65536},
		{"clear, nearest", itemOf(0, 0, 0, 0, true), 268435456 + 4095*65536},
		{"clear, each part", itemOf(1, 2, 3, 4, true), 536870912 + 268435456 + 4091*65536 + 2*256 + 3},
		{"the greatest clear one of layer 0", itemOf(0, 255, 255, 0, true), 536870911},
		{"layer 1", itemOf(1, 0, 0, 0, false), 536870912},
		{"layer 7", itemOf(7, 0, 0, 0, false), 7 * 536870912},
		{"the greatest that is not clear", itemOf(7, 255, 255, 4095, false), lastKey - 268435456},
		{"the greatest of all", itemOf(7, 255, 255, 0, true), lastKey},
	} {
		wantKey(t, c.what, c.x, c.want, true)
		wantSlowKey(t, c.what, c.x)
		wantParts(t, c.what, c.want, boxless(c.x), true)
		wantSlowParts(t, c.what, c.want)
		far := c.x
		far.Box = impl.Placed{X: -10000, Y: 10000, W: 10000}
		wantKey(t, c.what+", elsewhere", far, c.want, true)
	}
}

func TestKeysThatAreNone(t *testing.T) {
	for _, key := range append(farNumbers(), -1, -2, -4096, -1<<28, -1<<29, -lastKey, -lastKey-1, lastKey+1, lastKey+2, 1<<32+1<<28, 1<<33-1, 1<<33, 1<<60) {
		wantParts(t, "no key", key, impl.Item{}, false)
		wantSlowParts(t, "no key", key)
	}
	for bit := 32; bit < 64; bit++ {
		for _, below := range []int{0, 1, 1 << 28, 1 << 31, lastKey} {
			wantParts(t, "a bit too high", 1<<bit|below, impl.Item{}, false)
		}
	}
}

// Promise 20: each bit of a key tells something, and comes back.
func TestEachBitOfAKey(t *testing.T) {
	for bit := range 32 {
		for _, others := range []int{0, lastKey, 1 << 28, lastKey ^ 1<<28, 1 << 29, 0x55555555, 0xaaaaaaaa} {
			for _, key := range []int{others | 1<<bit, others &^ (1 << bit), 1 << bit, 1<<bit - 1, lastKey - 1<<bit} {
				wantSlowParts(t, "one bit", key)
				x, good := impl.KeyParts(key)
				if !good || x.Box != (impl.Placed{}) {
					t.Fatal(key, x, good)
				}
				wantKey(t, "one bit", x, key, true)
			}
		}
	}
}

// Promise 20: the keys of a layer lie between those of the layers beside it.
func TestKeysOfEachLayer(t *testing.T) {
	for layer := range 8 {
		for part, ends := range [][2]impl.Item{
			{itemOf(layer, 0, 0, 0, false), itemOf(layer, 255, 255, 4095, false)},
			{itemOf(layer, 0, 0, 4095, true), itemOf(layer, 255, 255, 0, true)},
		} {
			first := (2*layer + part) << 28
			wantKey(t, "the least", ends[0], first, true)
			wantKey(t, "the greatest", ends[1], first+1<<28-1, true)
			for _, key := range []int{first - 1, first, first + 1, first + 1<<28 - 2, first + 1<<28 - 1, first + 1<<28} {
				wantSlowParts(t, "at the ends of a layer", key)
			}
		}
	}
}

func coinItem(next func(int) int) impl.Item {
	x := impl.Item{Layer: next(8), Material: next(256), Mesh: next(256), Depth: next(4096), Clear: next(2) == 0}
	if next(2) == 0 {
		x.Box = impl.Placed{X: next(4000) - 2000, Y: next(4000) - 2000, W: next(4000), H: next(4000)}
	}
	return x
}

// nearItem gives an item that is like many others: of few layers, materials, meshes and depths, in a small place.
func nearItem(next func(int) int) impl.Item {
	x := impl.Item{Layer: next(2), Material: next(2), Mesh: next(2), Depth: next(3), Clear: next(2) == 0}
	x.Box = impl.Placed{X: next(9) - 2, Y: next(9) - 2, W: next(5), H: next(5)}
	return x
}

// compareDrawn tells by the words of the chapter which one is drawn first, without a key.
func compareDrawn(a impl.Item, b impl.Item) int {
	row := func(x impl.Item) []int {
		if x.Clear {
			return []int{x.Layer, 1, -x.Depth, x.Material, x.Mesh}
		}
		return []int{x.Layer, 0, x.Material, x.Mesh, x.Depth}
	}
	return slices.Compare(row(a), row(b))
}

// Promise 20: keys come back, and their order is the one of their parts.
func TestKeysComeBack(t *testing.T) {
	alikes := 0
	for seed := range 3000 {
		next := coinRow(seed + 20100)
		a, b := coinItem(next), coinItem(next)
		if seed%2 == 0 {
			a, b = nearItem(next), nearItem(next)
		}
		wantSlowKey(t, "coins", a)
		keyOfA, _ := impl.SortKey(a)
		keyOfB, _ := impl.SortKey(b)
		wantParts(t, "coins", keyOfA, boxless(a), true)
		if order := compareDrawn(a, b); (keyOfA < keyOfB) != (order < 0) || (keyOfA > keyOfB) != (order > 0) {
			t.Error("the order of keys", a, b, keyOfA, keyOfB)
		}
		if keyOfA == keyOfB {
			alikes++
			if boxless(a) != boxless(b) {
				t.Error("two items of one key", a, b)
			}
		}
		key := next(4096)<<20 | next(4096)<<8 | next(256)
		wantSlowParts(t, "coins", key)
		if x, good := impl.KeyParts(key); !good {
			t.Error(key, x)
		} else {
			wantKey(t, "coins", x, key, true)
		}
	}
	if alikes < 10 {
		t.Error(alikes)
	}
}

func TestSeenTold(t *testing.T) {
	view := impl.Placed{X: 10, Y: 20, W: 4, H: 6}
	for _, c := range []struct {
		what string
		x    impl.Item
		seen bool
	}{
		{"alike", boxedItem(10, 20, 4, 6), true},
		{"within", boxedItem(11, 22, 1, 1), true},
		{"around", boxedItem(0, 0, 100, 100), true},
		{"across, level", boxedItem(0, 22, 100, 1), true},
		{"across, upright", boxedItem(12, 0, 1, 100), true},
		{"the first unit of a corner", boxedItem(9, 19, 2, 2), true},
		{"the last unit of a corner", boxedItem(13, 25, 2, 2), true},
		{"the corner on the right above", boxedItem(13, 19, 2, 2), true},
		{"the corner on the left below", boxedItem(9, 25, 2, 2), true},
		{"touches on the left", boxedItem(5, 20, 5, 6), false},
		{"touches on the right", boxedItem(14, 20, 5, 6), false},
		{"touches above", boxedItem(10, 15, 4, 5), false},
		{"touches below", boxedItem(10, 26, 4, 5), false},
		{"touches a corner", boxedItem(9, 19, 1, 1), false},
		{"touches the last corner", boxedItem(14, 26, 1, 1), false},
		{"touches the corner on the right above", boxedItem(14, 19, 1, 1), false},
		{"touches the corner on the left below", boxedItem(9, 26, 1, 1), false},
		{"on the left, as high", boxedItem(0, 20, 9, 6), false},
		{"on the right, as high", boxedItem(15, 20, 9, 6), false},
		{"above, as wide", boxedItem(10, 0, 4, 19), false},
		{"below, as wide", boxedItem(10, 27, 4, 19), false},
		{"without width, within", boxedItem(12, 21, 0, 2), false},
		{"without height, within", boxedItem(11, 23, 2, 0), false},
		{"a point within", boxedItem(12, 23, 0, 0), false},
		{"without width, as high", boxedItem(12, 20, 0, 6), false},
		{"without height, as wide", boxedItem(10, 23, 4, 0), false},
		{"without width, around", boxedItem(12, 0, 0, 100), false},
		{"without height, around", boxedItem(0, 23, 100, 0), false},
		{"without width, at its edge", boxedItem(10, 20, 0, 6), false},
		{"far out", boxedItem(-10000, -10000, 10000, 10000), false},
		{"far out, over all of it", boxedItem(-9000, -9000, 10000, 10000), true},
		{"at the other end", boxedItem(10000, 10000, 10000, 10000), false},
	} {
		want := []int{}
		if c.seen {
			want = []int{0}
		}
		for _, clear := range []bool{false, true} {
			x := c.x
			x.Clear = clear
			wantSeen(t, c.what, []impl.Item{x}, view, want, true)
			wantSlowDrawn(t, c.what, []impl.Item{x}, view)
		}
		// The one and the other change places.
		wantSeen(t, c.what+", turned round", []impl.Item{{Box: view}}, c.x.Box, want, true)
		wantSlowDrawn(t, c.what+", turned round", []impl.Item{{Box: view}}, c.x.Box)
	}
}

func TestSeenFromStrangeViews(t *testing.T) {
	l := []impl.Item{boxedItem(0, 0, 5, 5), boxedItem(-10000, -10000, 1, 1), boxedItem(10000, 10000, 1, 1), boxedItem(-10000, -10000, 10000, 10000), boxedItem(2, 2, 0, 0), boxedItem(10000, 0, 10000, 1), boxedItem(0, 10000, 1, 10000)}
	for _, c := range []struct {
		what string
		view impl.Placed
		want []int
	}{
		{"without width", impl.Placed{X: 1, Y: 1, H: 3}, nil},
		{"without height", impl.Placed{X: 1, Y: 1, W: 3}, nil},
		{"without either", impl.Placed{X: 1, Y: 1}, nil},
		{"of noughts", impl.Placed{}, nil},
		{"the least corner", impl.Placed{X: -10000, Y: -10000, W: 1, H: 1}, []int{1, 3}},
		{"the greatest corner", impl.Placed{X: 10000, Y: 10000, W: 1, H: 1}, []int{2}},
		{"the greatest corner, at the most", impl.Placed{X: 10000, Y: 10000, W: 10000, H: 10000}, []int{2}},
		{"all below 0", impl.Placed{X: -10000, Y: -10000, W: 10000, H: 10000}, []int{1, 3}},
		{"all above 0", impl.Placed{W: 10000, H: 10000}, []int{0}},
		{"the last above 0", impl.Placed{X: 1, Y: 0, W: 10000, H: 10000}, []int{0, 5}},
		{"the lowest above 0", impl.Placed{X: 0, Y: 1, W: 10000, H: 10000}, []int{0, 6}},
		{"one unit", impl.Placed{X: 4, Y: 4, W: 1, H: 1}, []int{0}},
		{"one unit beside", impl.Placed{X: 5, Y: 4, W: 1, H: 1}, nil},
		{"one unit below", impl.Placed{X: 4, Y: 5, W: 1, H: 1}, nil},
		{"across 0", impl.Placed{X: -1, Y: -1, W: 2, H: 2}, []int{0, 3}},
	} {
		wantSeen(t, c.what, l, c.view, c.want, true)
		wantSlowDrawn(t, c.what, l, c.view)
	}
}

// All boxes of a small place against all views of it.
func TestSeenOfAllSmallBoxes(t *testing.T) {
	var l []impl.Item
	for number := range 4 * 4 * 4 * 4 {
		l = append(l, boxedItem(number%4-1, number/4%4-1, number/16%4, number/64))
	}
	for _, view := range l {
		for from := 0; from < len(l); from += mostItems {
			part := l[from:min(from+mostItems, len(l))]
			want, _ := slowSeen(part, view.Box)
			if got, good := impl.Seen(part, view.Box); !good || !slices.Equal(got, want) {
				t.Error(part, view.Box, got, want)
			}
		}
	}
}

func TestLotsTold(t *testing.T) {
	lot := func(material int, mesh int, items ...int) impl.Lot {
		return impl.Lot{Material: material, Mesh: mesh, Items: items}
	}
	solid := func(layer int, material int, mesh int, depth int) impl.Item {
		return itemOf(layer, material, mesh, depth, false)
	}
	glass := func(layer int, material int, mesh int, depth int) impl.Item {
		return itemOf(layer, material, mesh, depth, true)
	}
	for _, c := range []struct {
		what string
		l    []impl.Item
		want []impl.Lot
	}{
		{"no item", nil, nil},
		{"one", []impl.Item{solid(1, 2, 3, 4)}, []impl.Lot{lot(2, 3, 0)}},
		{"one that is clear", []impl.Item{glass(1, 2, 3, 4)}, []impl.Lot{lot(2, 3, 0)}},
		{"of one key", []impl.Item{solid(1, 2, 3, 4), solid(1, 2, 3, 4), solid(1, 2, 3, 4)}, []impl.Lot{lot(2, 3, 0, 1, 2)}},
		{"clear, of one key", []impl.Item{glass(1, 2, 3, 4), glass(1, 2, 3, 4)}, []impl.Lot{lot(2, 3, 0, 1)}},
		{"from before", []impl.Item{solid(0, 1, 1, 9), solid(0, 1, 1, 5), solid(0, 1, 1, 7)}, []impl.Lot{lot(1, 1, 1, 2, 0)}},
		{"clear, from behind", []impl.Item{glass(0, 1, 1, 9), glass(0, 1, 1, 5), glass(0, 1, 1, 7)}, []impl.Lot{lot(1, 1, 0, 2, 1)}},
		{"by material", []impl.Item{solid(0, 2, 0, 0), solid(0, 1, 0, 1), solid(0, 2, 0, 2), solid(0, 1, 0, 3)}, []impl.Lot{lot(1, 0, 1, 3), lot(2, 0, 0, 2)}},
		{"by mesh", []impl.Item{solid(0, 0, 2, 0), solid(0, 0, 1, 1), solid(0, 0, 2, 2), solid(0, 0, 1, 3)}, []impl.Lot{lot(0, 1, 1, 3), lot(0, 2, 0, 2)}},
		{"clear ones take turns", []impl.Item{glass(0, 2, 0, 3), glass(0, 1, 0, 2), glass(0, 2, 0, 1), glass(0, 1, 0, 0)}, []impl.Lot{lot(2, 0, 0), lot(1, 0, 1), lot(2, 0, 2), lot(1, 0, 3)}},
		{"clear ones of one depth, by material", []impl.Item{glass(0, 2, 0, 3), glass(0, 1, 0, 3), glass(0, 2, 0, 3), glass(0, 1, 0, 3)}, []impl.Lot{lot(1, 0, 1, 3), lot(2, 0, 0, 2)}},
		{"the same in two layers", []impl.Item{solid(1, 3, 4, 0), solid(0, 3, 4, 0)}, []impl.Lot{lot(3, 4, 1), lot(3, 4, 0)}},
		{"clear, the same in two layers", []impl.Item{glass(1, 3, 4, 0), glass(0, 3, 4, 0)}, []impl.Lot{lot(3, 4, 1), lot(3, 4, 0)}},
		{"one clear and one not", []impl.Item{glass(0, 3, 4, 0), solid(0, 3, 4, 0)}, []impl.Lot{lot(3, 4, 1), lot(3, 4, 0)}},
		{"clear in the layer ahead, and not", []impl.Item{solid(1, 3, 4, 0), glass(0, 3, 4, 0)}, []impl.Lot{lot(3, 4, 1), lot(3, 4, 0)}},
		{"clear, with another between them", []impl.Item{glass(0, 3, 4, 9), glass(0, 3, 5, 8), glass(0, 3, 4, 7)}, []impl.Lot{lot(3, 4, 0), lot(3, 5, 1), lot(3, 4, 2)}},
		{"another between them that is not seen", []impl.Item{glass(0, 3, 4, 9), {Material: 3, Mesh: 5, Depth: 8, Clear: true}, glass(0, 3, 4, 7)}, []impl.Lot{lot(3, 4, 0, 2)}},
		{"material and mesh exchanged", []impl.Item{solid(0, 4, 3, 0), solid(0, 3, 4, 0)}, []impl.Lot{lot(3, 4, 1), lot(4, 3, 0)}},
		{"layers ahead of all", []impl.Item{solid(7, 0, 0, 0), glass(0, 255, 255, 0), solid(1, 0, 0, 0), solid(0, 255, 255, 4095)}, []impl.Lot{lot(255, 255, 3), lot(255, 255, 1), lot(0, 0, 2), lot(0, 0, 0)}},
		{"none of them is seen", []impl.Item{{}, {Clear: true}, boxedItem(-5, 0, 5, 5)}, nil},
	} {
		wantLots(t, c.what, c.l, wholeView, c.want, true)
		wantSlowDrawn(t, c.what, c.l, wholeView)
	}
}

func TestDrawnAtTheMost(t *testing.T) {
	for _, many := range []int{0, 1, 2, 59, 60} {
		wantSeen(t, "many", manyItems(many), wholeView, counted(many), true)
		wantSlowDrawn(t, "many", manyItems(many), wholeView)
	}
	same := make([]impl.Item, mostItems)
	for i := range same {
		same[i] = itemOf(7, 255, 255, 0, true)
	}
	wantLots(t, "as many of one key", same, wholeView, []impl.Lot{{Material: 255, Mesh: 255, Items: counted(mostItems)}}, true)
	for i := range same {
		same[i].Depth = i
	}
	from := counted(mostItems)
	slices.Reverse(from)
	wantLots(t, "as many, from behind", same, wholeView, []impl.Lot{{Material: 255, Mesh: 255, Items: from}}, true)
	for _, many := range []int{61, 62, 120, 1000} {
		wantNoDrawn(t, "too many", manyItems(many), wholeView)
		wantNoDrawn(t, "too many of which none is seen", make([]impl.Item, many), wholeView)
	}
}

func TestDrawnOfWrongInputs(t *testing.T) {
	for at := range 3 {
		for field, bounds := range itemBounds() {
			for _, number := range drawEdges() {
				l := manyItems(3)
				*itemFields(&l[at])[field] = number
				wantSlowDrawn(t, "one number", l, wholeView)
				if !within(bounds[0], number, bounds[1]) {
					wantNoDrawn(t, "an item that is not good", l, wholeView)
					wantNoDrawn(t, "an item that is not good, of a view of nothing", l, impl.Placed{})
				}
			}
		}
	}
	for field, bounds := range itemBounds()[4:] {
		for _, number := range drawEdges() {
			view := impl.Placed{X: -5, Y: -5, W: 20, H: 20}
			*[]*int{&view.X, &view.Y, &view.W, &view.H}[field] = number
			for _, l := range [][]impl.Item{nil, manyItems(4), {boxedItem(-10000, -10000, 10000, 10000)}} {
				wantSlowDrawn(t, "one number of the view", l, view)
				if !within(bounds[0], number, bounds[1]) {
					wantNoDrawn(t, "a view that is not good", l, view)
				}
			}
		}
	}
}

// holdsPromise20 asks for each one that is seen once, in the order of keys, in lots of one look, as few as may be.
func holdsPromise20(t *testing.T, l []impl.Item, view impl.Placed) int {
	t.Helper()
	seen, _ := impl.Seen(l, view)
	lots, good := impl.LotsOf(l, view)
	var told []int
	for i, lot := range lots {
		if len(lot.Items) == 0 {
			t.Error("an empty lot", l, view)
			return 0
		}
		first := l[lot.Items[0]]
		for _, number := range lot.Items {
			x := l[number]
			if x.Material != lot.Material || x.Mesh != lot.Mesh || x.Layer != first.Layer || x.Clear != first.Clear {
				t.Error("another look within a lot", l, view, lots)
			}
		}
		if i > 0 {
			if last := l[told[len(told)-1]]; last.Material == lot.Material && last.Mesh == lot.Mesh && last.Layer == first.Layer && last.Clear == first.Clear {
				t.Error("two lots where one would do", l, view, lots)
			}
		}
		told = append(told, lot.Items...)
	}
	for i := 1; i < len(told); i++ {
		order := compareDrawn(l[told[i-1]], l[told[i]])
		if order > 0 || order == 0 && told[i-1] >= told[i] {
			t.Error("out of order", l, view, lots)
		}
	}
	slices.Sort(told)
	if !good || !slices.Equal(told, seen) {
		t.Error("not each one that is seen, once", l, view, lots, seen)
	}
	return len(told) - len(lots)
}

// Promise 20.
func TestLotsHoldEachItemThatIsSeenOnce(t *testing.T) {
	together, apart := 0, 0
	for seed := range 2500 {
		next := coinRow(seed + 20300)
		var l []impl.Item
		for range next(mostItems + 1) {
			if seed%3 == 0 {
				l = append(l, coinItem(next))
			} else {
				l = append(l, nearItem(next))
			}
		}
		view := impl.Placed{X: next(7) - 2, Y: next(7) - 2, W: next(9), H: next(9)}
		if seed%3 == 0 {
			view = impl.Placed{X: next(4000) - 3000, Y: next(4000) - 3000, W: next(4000), H: next(4000)}
		}
		wantSlowDrawn(t, "coins", l, view)
		saved := holdsPromise20(t, l, view)
		if saved > 0 {
			together++
		} else if len(l) > 0 {
			apart++
		}
	}
	if together < 500 || apart < 200 {
		t.Error(together, apart)
	}
}

// An item that is not seen changes nothing in the lots of the others but their numbers.
func TestLotsDoNotHangOnWhatIsNotSeen(t *testing.T) {
	for seed := range 300 {
		next := coinRow(seed + 20400)
		var l, all []impl.Item
		var at []int
		for range 1 + next(20) {
			x := nearItem(next)
			x.Box = impl.Placed{X: next(4), Y: next(4), W: 1 + next(3), H: 1 + next(3)}
			for range next(3) {
				hidden := nearItem(next)
				hidden.Box.W = 0
				all = append(all, hidden)
			}
			l, at, all = append(l, x), append(at, len(all)), append(all, x)
		}
		want, _ := impl.LotsOf(l, wholeView)
		for _, lot := range want {
			for i, number := range lot.Items {
				lot.Items[i] = at[number]
			}
		}
		wantLots(t, "with others that are not seen", all, wholeView, want, true)
	}
}

// sheetOf gives a sheet of these pixels.
func sheetOf(wide int, high int, pixels ...int) impl.Sheet {
	return impl.Sheet{Wide: wide, High: high, Pixels: pixels}
}

// plainSheet gives a sheet of which all pixels are alike.
func plainSheet(wide int, high int, pixel int) impl.Sheet {
	s := impl.Sheet{Wide: wide, High: high}
	for range max(0, wide*high) {
		s.Pixels = append(s.Pixels, pixel)
	}
	return s
}

// motleySheet gives one of which no two pixels are alike.
func motleySheet(wide int, high int) impl.Sheet {
	s := plainSheet(wide, high, 0)
	for i := range s.Pixels {
		s.Pixels[i] = 1000 + 37*i
	}
	return s
}

// sheetDrawn reads a sheet from its rows: a dot is 0, another byte the color.
func sheetDrawn(color int, rows ...string) impl.Sheet {
	s := impl.Sheet{Wide: len(rows[0]), High: len(rows)}
	for _, b := range []byte(strings.Join(rows, "")) {
		pixel := color
		if b == '.' {
			pixel = 0
		}
		s.Pixels = append(s.Pixels, pixel)
	}
	return s
}

func TestGoodSheets(t *testing.T) {
	for _, wide := range []int{-24, -1, 0, 1, 2, 23, 24, 25, 48} {
		for _, high := range []int{-24, -1, 0, 1, 2, 23, 24, 25, 48} {
			s := plainSheet(wide, high, 5)
			wantSheetTaken(t, "of sides", s, within(1, wide, 24) && within(1, high, 24))
			s.Pixels = append(s.Pixels, 5)
			wantSheetTaken(t, "a pixel too many", s, false)
			if wide*high > 0 {
				s.Pixels = s.Pixels[:wide*high-1]
				wantSheetTaken(t, "a pixel too few", s, false)
			}
			s.Pixels = nil
			wantSheetTaken(t, "without pixels", s, false)
		}
	}
	for _, side := range append(farNumbers(), 1<<32, 1<<32+1, 1<<31, 1<<33) {
		for _, pixels := range [][]int{nil, {0}, {0, 0}} {
			wantSheetTaken(t, "far too wide", sheetOf(side, 1, pixels...), false)
			wantSheetTaken(t, "far too high", sheetOf(1, side, pixels...), false)
			wantSheetTaken(t, "far too wide and high", sheetOf(side, side, pixels...), false)
		}
	}
	wantSheetTaken(t, "of noughts", impl.Sheet{}, false)
	// The product of the sides is as many, though they are none.
	wantSheetTaken(t, "both below 0", sheetOf(-1, -1, 3), false)
	wantSheetTaken(t, "both far below 0", sheetOf(-2, -3, 1, 2, 3, 4, 5, 6), false)
	wantSheetTaken(t, "the product goes round to 0", sheetOf(1<<32, 1<<32), false)
	wantSheetTaken(t, "one too wide", sheetOf(25, 1, counted(25)...), false)
}

func TestPixelsAndColors(t *testing.T) {
	colors := append(beyond(mostColor), 0, 1, 16777214, mostColor)
	for _, color := range colors {
		good := within(0, color, mostColor)
		for _, many := range []int{1, 2, 24} {
			for _, at := range []int{0, many / 2, many - 1} {
				s := plainSheet(many, 1, 7)
				s.Pixels[at] = color
				wantSheetTaken(t, "one pixel", s, good)
			}
		}
		s, box := motleySheet(3, 2), impl.Placed{W: 2, H: 1}
		wantSlowPaintBox(t, "any color", s, box, color)
		wantSlowPaintLine(t, "any color", s, [4]int{0, 0, 2, 1}, color)
		if !good {
			wantPaintBox(t, "no color", s, box, color, impl.Sheet{}, false)
			wantPaintBox(t, "no color, of no pixel", s, impl.Placed{}, color, impl.Sheet{}, false)
			wantPaintLine(t, "no color", s, [4]int{0, 0, 2, 1}, color, impl.Sheet{}, false)
			wantPaintLine(t, "no color, of no pixel", s, [4]int{-5, 0, -9, 1}, color, impl.Sheet{}, false)
		}
	}
}

func TestPaintBoxTold(t *testing.T) {
	for _, c := range []struct {
		what string
		box  impl.Placed
		rows []string
	}{
		{"one pixel", impl.Placed{X: 1, Y: 1, W: 1, H: 1}, []string{".....", ".#...", "....."}},
		{"within", impl.Placed{X: 1, Y: 0, W: 3, H: 2}, []string{".###.", ".###.", "....."}},
		{"all of it", impl.Placed{W: 5, H: 3}, []string{"#####", "#####", "#####"}},
		{"over all of it", impl.Placed{X: -9, Y: -9, W: 90, H: 90}, []string{"#####", "#####", "#####"}},
		{"over all of it, at the most", impl.Placed{X: -9000, Y: -9990, W: 10000, H: 10000}, []string{"#####", "#####", "#####"}},
		{"a row", impl.Placed{X: 0, Y: 2, W: 5, H: 1}, []string{".....", ".....", "#####"}},
		{"a column", impl.Placed{X: 4, Y: 0, W: 1, H: 3}, []string{"....#", "....#", "....#"}},
		{"partly, on the left above", impl.Placed{X: -1, Y: -1, W: 2, H: 2}, []string{"#....", ".....", "....."}},
		{"partly, on the right below", impl.Placed{X: 4, Y: 2, W: 2, H: 2}, []string{".....", ".....", "....#"}},
		{"partly, on the right above", impl.Placed{X: 3, Y: -1, W: 9, H: 2}, []string{"...##", ".....", "....."}},
		{"partly, on the left below", impl.Placed{X: -5, Y: 2, W: 7, H: 9}, []string{".....", ".....", "##..."}},
		{"does not go on in the next row", impl.Placed{X: 5, Y: 0, W: 2, H: 3}, []string{".....", ".....", "....."}},
		{"on the left", impl.Placed{X: -3, Y: 0, W: 3, H: 3}, []string{".....", ".....", "....."}},
		{"above", impl.Placed{X: 0, Y: -3, W: 5, H: 3}, []string{".....", ".....", "....."}},
		{"below", impl.Placed{X: 0, Y: 3, W: 5, H: 3}, []string{".....", ".....", "....."}},
		{"without width", impl.Placed{X: 1, Y: 0, W: 0, H: 3}, []string{".....", ".....", "....."}},
		{"without height", impl.Placed{X: 0, Y: 1, W: 5, H: 0}, []string{".....", ".....", "....."}},
		{"of noughts", impl.Placed{}, []string{".....", ".....", "....."}},
		{"far out", impl.Placed{X: 10000, Y: 10000, W: 10000, H: 10000}, []string{".....", ".....", "....."}},
		{"up to 0", impl.Placed{X: -10000, Y: -10000, W: 10000, H: 10000}, []string{".....", ".....", "....."}},
		{"up to 0, as high", impl.Placed{X: -10000, Y: 0, W: 10000, H: 10000}, []string{".....", ".....", "....."}},
	} {
		for _, color := range []int{1, mostColor} {
			wantPaintBox(t, c.what, plainSheet(5, 3, 0), c.box, color, sheetDrawn(color, c.rows...), true)
		}
		wantSlowPaintBox(t, c.what, motleySheet(5, 3), c.box, 3)
		wantSlowPaintBox(t, c.what, motleySheet(5, 3), c.box, 0)
	}
}

func TestPaintBoxOfWrongInputs(t *testing.T) {
	for field, bounds := range itemBounds()[4:] {
		for _, number := range drawEdges() {
			box := impl.Placed{X: -1, Y: -1, W: 3, H: 3}
			*[]*int{&box.X, &box.Y, &box.W, &box.H}[field] = number
			wantSlowPaintBox(t, "one number of the box", motleySheet(4, 3), box, 6)
			if !within(bounds[0], number, bounds[1]) {
				wantPaintBox(t, "a box that is not good", motleySheet(4, 3), box, 6, impl.Sheet{}, false)
			}
		}
	}
}

// All boxes on and around small sheets.
func TestPaintBoxOfAllSmallBoxes(t *testing.T) {
	for _, s := range []impl.Sheet{motleySheet(1, 1), motleySheet(3, 2), motleySheet(2, 3)} {
		for x := -2; x < 5; x++ {
			for y := -2; y < 5; y++ {
				for w := range 5 {
					for h := range 5 {
						box := impl.Placed{X: x, Y: y, W: w, H: h}
						want, _ := slowPaintBox(s, box, 9)
						if got, good := impl.PaintBox(s, box, 9); !good || !alike(got, want) {
							t.Error(s, box, got, want)
						}
					}
				}
			}
		}
	}
}

func TestPaintLineTold(t *testing.T) {
	for _, c := range []struct {
		what string
		ends [4]int
		rows []string
	}{
		{"one pixel", [4]int{2, 1, 2, 1}, []string{".....", "..#..", ".....", "....."}},
		{"the first pixel", [4]int{0, 0, 0, 0}, []string{"#....", ".....", ".....", "....."}},
		{"the last pixel", [4]int{4, 3, 4, 3}, []string{".....", ".....", ".....", "....#"}},
		{"one pixel beside it", [4]int{5, 0, 5, 0}, []string{".....", ".....", ".....", "....."}},
		{"one pixel below it", [4]int{0, 4, 0, 4}, []string{".....", ".....", ".....", "....."}},
		{"one pixel ahead of it", [4]int{-1, 1, -1, 1}, []string{".....", ".....", ".....", "....."}},
		{"level", [4]int{1, 2, 3, 2}, []string{".....", ".....", ".###.", "....."}},
		{"level, back", [4]int{3, 2, 1, 2}, []string{".....", ".....", ".###.", "....."}},
		{"upright", [4]int{1, 0, 1, 3}, []string{".#...", ".#...", ".#...", ".#..."}},
		{"upright, back", [4]int{1, 3, 1, 1}, []string{".....", ".#...", ".#...", ".#..."}},
		{"45 degrees", [4]int{0, 0, 3, 3}, []string{"#....", ".#...", "..#..", "...#."}},
		{"45 degrees, back", [4]int{3, 3, 0, 0}, []string{"#....", ".#...", "..#..", "...#."}},
		{"45 degrees, rising", [4]int{1, 3, 4, 0}, []string{"....#", "...#.", "..#..", ".#..."}},
		{"45 degrees, rising, back", [4]int{4, 0, 1, 3}, []string{"....#", "...#.", "..#..", ".#..."}},
		{"flat: a half is rounded to the greater one", [4]int{0, 0, 2, 1}, []string{"#....", ".##..", ".....", "....."}},
		{"flat, back: a half is rounded to the greater one again", [4]int{2, 1, 0, 0}, []string{"#....", ".##..", ".....", "....."}},
		{"flat, rising", [4]int{0, 1, 2, 0}, []string{"..#..", "##...", ".....", "....."}},
		{"flat, rising, back", [4]int{2, 0, 0, 1}, []string{"..#..", "##...", ".....", "....."}},
		{"flat, to the end", [4]int{0, 0, 4, 1}, []string{"##...", "..###", ".....", "....."}},
		{"flat, two down", [4]int{0, 0, 4, 2}, []string{"#....", ".##..", "...##", "....."}},
		{"flat, two down, back", [4]int{4, 2, 0, 0}, []string{"#....", ".##..", "...##", "....."}},
		{"flat, three down", [4]int{0, 0, 4, 3}, []string{"#....", ".#...", "..##.", "....#"}},
		{"flat, three up", [4]int{0, 3, 4, 0}, []string{"....#", "...#.", ".##..", "#...."}},
		{"steep", [4]int{0, 0, 1, 3}, []string{"#....", "#....", ".#...", ".#..."}},
		{"steep, back", [4]int{1, 3, 0, 0}, []string{"#....", "#....", ".#...", ".#..."}},
		{"steep: a half goes to the right", [4]int{0, 0, 1, 2}, []string{"#....", ".#...", ".#...", "....."}},
		{"steep, to the left: a half goes to the right", [4]int{1, 0, 0, 2}, []string{".#...", ".#...", "#....", "....."}},
		{"steep, rising", [4]int{2, 3, 3, 0}, []string{"...#.", "...#.", "..#..", "..#.."}},
		{"partly on it, level", [4]int{-3, 1, 1, 1}, []string{".....", "##...", ".....", "....."}},
		{"partly on it, at its end", [4]int{3, 1, 9, 1}, []string{".....", "...##", ".....", "....."}},
		{"over all of it", [4]int{-9, 0, 9, 0}, []string{"#####", ".....", ".....", "....."}},
		{"over all of it, upright", [4]int{4, 90, 4, -90}, []string{"....#", "....#", "....#", "....#"}},
		{"does not go on in the next row", [4]int{5, 0, 9, 0}, []string{".....", ".....", ".....", "....."}},
		{"through a corner", [4]int{-2, 1, 1, -2}, []string{".....", ".....", ".....", "....."}},
		{"over a corner", [4]int{-1, 1, 1, -1}, []string{"#....", ".....", ".....", "....."}},
		{"past it", [4]int{-5, -1, 9, -1}, []string{".....", ".....", ".....", "....."}},
		{"from end to end, level", [4]int{-10000, 2, 10000, 2}, []string{".....", ".....", "#####", "....."}},
		{"from end to end, upright", [4]int{3, 10000, 3, -10000}, []string{"...#.", "...#.", "...#.", "...#."}},
		{"from corner to corner", [4]int{-10000, -10000, 10000, 10000}, []string{"#....", ".#...", "..#..", "...#."}},
		{"from corner to corner, back", [4]int{10000, 10000, -10000, -10000}, []string{"#....", ".#...", "..#..", "...#."}},
		{"from the other corner", [4]int{-10000, 10000, 10000, -10000}, []string{"#....", ".....", ".....", "....."}},
		{"far, a half on each step", [4]int{-10000, 0, 10000, 1}, []string{".....", "#####", ".....", "....."}},
		{"far out", [4]int{10000, 10000, 10000, 10000}, []string{".....", ".....", ".....", "....."}},
	} {
		for _, color := range []int{1, mostColor} {
			wantPaintLine(t, c.what, plainSheet(5, 4, 0), c.ends, color, sheetDrawn(color, c.rows...), true)
		}
		wantSlowPaintLine(t, c.what, motleySheet(5, 4), c.ends, 3)
		wantSlowPaintLine(t, c.what, motleySheet(5, 4), c.ends, 0)
	}
}

func TestPaintLineOfWrongInputs(t *testing.T) {
	for field := range 4 {
		for _, number := range append(drawEdges(), -20000, 20000, -30001) {
			ends := [4]int{-1, 1, 5, 2}
			ends[field] = number
			wantSlowPaintLine(t, "one end", motleySheet(4, 3), ends, 6)
			if !within(-mostRoom, number, mostRoom) {
				wantPaintLine(t, "an end too far out", motleySheet(4, 3), ends, 6, impl.Sheet{}, false)
				wantPaintLine(t, "all ends too far out", motleySheet(4, 3), [4]int{number, number, number, number}, 6, impl.Sheet{}, false)
			}
		}
	}
}

// All lines on and around a small sheet, in both directions.
func TestPaintLineOfAllSmallLines(t *testing.T) {
	s := motleySheet(5, 4)
	var places [][2]int
	for x := -2; x < 7; x++ {
		for y := -2; y < 6; y++ {
			places = append(places, [2]int{x, y})
		}
	}
	for _, from := range places {
		for _, to := range places {
			want, _ := slowPaintLine(s, from[0], from[1], to[0], to[1], 9)
			got, good := impl.PaintLine(s, from[0], from[1], to[0], to[1], 9)
			if !good || !alike(got, want) {
				t.Error(from, to, got, want)
			}
			// A step's place does not hang on the end from which it is counted: halves go to the greater one from both.
			back, _ := impl.PaintLine(s, to[0], to[1], from[0], from[1], 9)
			if !alike(got, back) {
				t.Error("another line back", from, to, got, back)
			}
		}
	}
}

// A line on a sheet has one pixel for each step, both ends, and no gap.
func TestPaintLineHasNoGap(t *testing.T) {
	for seed := range 1500 {
		next := coinRow(seed + 20500)
		wide, high := 1+next(mostSide), 1+next(mostSide)
		x0, y0, x1, y1 := next(wide), next(high), next(wide), next(high)
		s, good := impl.PaintLine(plainSheet(wide, high, 0), x0, y0, x1, y1, 1)
		steps := max(x1-x0, x0-x1, y1-y0, y0-y1)
		if !good || sumOf(s.Pixels) != steps+1 || s.Pixels[y0*wide+x0] != 1 || s.Pixels[y1*wide+x1] != 1 {
			t.Error("pixels of a line", wide, high, x0, y0, x1, y1, s)
		}
		for i, pixel := range s.Pixels {
			beside := 0
			for j, other := range s.Pixels {
				apart := max(i%wide-j%wide, j%wide-i%wide, i/wide-j/wide, j/wide-i/wide)
				if apart == 1 {
					beside += other
				}
			}
			ends := 2
			if i == y0*wide+x0 || i == y1*wide+x1 {
				ends = min(1, steps)
			}
			if pixel == 1 && beside != ends {
				t.Error("a gap or a branch", wide, high, x0, y0, x1, y1, s)
			}
		}
		wantSlowPaintLine(t, "coins", motleySheet(wide, high), [4]int{x0, y0, x1, y1}, next(4096)*next(4096))
	}
}

func TestPaintLineOfCoins(t *testing.T) {
	some := 0
	for seed := range 1200 {
		next := coinRow(seed + 20600)
		far := coinOf(next, []int{30, 60, 300, 4000})
		s := motleySheet(1+next(mostSide), 1+next(mostSide))
		ends := [4]int{next(far) - far/2, next(far) - far/2, next(far) - far/2, next(far) - far/2}
		if seed%4 == 0 {
			for i := range ends {
				ends[i] = max(-mostRoom, min(6*ends[i], mostRoom))
			}
		}
		wantSlowPaintLine(t, "coins", s, ends, 5)
		if got, _ := impl.PaintLine(s, ends[0], ends[1], ends[2], ends[3], 5); !alike(got, s) {
			some++
		}
	}
	if some < 150 {
		t.Error(some)
	}
}

func TestSheetSumTold(t *testing.T) {
	for _, c := range []struct {
		what string
		s    impl.Sheet
		want int
	}{
		{"one pixel of 0", sheetOf(1, 1, 0), 217},
		{"one pixel", sheetOf(1, 1, 5), 222},
		{"one pixel, up to the round", sheetOf(1, 1, 999785), 1000002},
		{"one pixel, at the round", sheetOf(1, 1, 999786), 0},
		{"one pixel, beyond the round", sheetOf(1, 1, 999787), 1},
		{"one pixel at the most", sheetOf(1, 1, mostColor), (217 + mostColor) % 1000003},
		{"two", sheetOf(2, 1, 0, 0), 6727},
		{"two, one on the other", sheetOf(1, 2, 0, 0), 6727},
		{"two, in order", sheetOf(2, 1, 1, 2), 218*31 + 2},
		{"two, the other way round", sheetOf(2, 1, 2, 1), 219*31 + 1},
		{"four", sheetOf(2, 2, 1, 2, 3, 4), ((218*31+2)*31+3)*31%1000003 + 4},
	} {
		wantSheetSum(t, c.what, c.s, c.want, true)
		want, _ := slowSheetSum(c.s)
		if want != c.want {
			t.Error(c.what, want, c.want)
		}
	}
	for _, s := range []impl.Sheet{plainSheet(24, 24, 0), plainSheet(24, 24, 1), plainSheet(24, 24, mostColor), motleySheet(24, 24), plainSheet(1, 24, mostColor), plainSheet(24, 1, mostColor)} {
		want, _ := slowSheetSum(s)
		wantSheetSum(t, "the greatest one", s, want, true)
	}
}

func TestSheetSumOfCoins(t *testing.T) {
	for seed := range 500 {
		next := coinRow(seed + 20700)
		s := plainSheet(1+next(mostSide), 1+next(mostSide), 0)
		for i := range s.Pixels {
			s.Pixels[i] = next(4096)<<12 | next(4096)
		}
		want, _ := slowSheetSum(s)
		wantSheetSum(t, "coins", s, want, true)
		// One pixel more of 1 is told.
		at := next(len(s.Pixels))
		if s.Pixels[at] < mostColor {
			s.Pixels[at]++
			if got, _ := impl.SheetSum(s); got == want {
				t.Error("the same sum of another sheet", s)
			}
		}
	}
}

// What is painted is a sheet again, which is painted on: the last color counts.
func TestPaintingOneOnTheOther(t *testing.T) {
	s, good := impl.PaintBox(plainSheet(6, 4, 0), impl.Placed{X: 1, Y: 1, W: 4, H: 2}, 2)
	if !good {
		t.Fatal(s)
	}
	kept := slices.Clone(s.Pixels)
	lined, good := impl.PaintLine(s, 0, 0, 5, 3, 3)
	if !good || !slices.Equal(s.Pixels, kept) {
		t.Fatal("written into", s, lined)
	}
	told := sheetOf(6, 4, 3, 0, 0, 0, 0, 0, 0, 2+1, 3, 2, 2, 0, 0, 2, 2, 3, 3, 0, 0, 0, 0, 0, 0, 3)
	if !alike(lined, told) {
		t.Error(lined, told)
	}
	again, good := impl.PaintBox(lined, impl.Placed{W: 6, H: 4}, 0)
	if !good || !alike(again, plainSheet(6, 4, 0)) {
		t.Error(again)
	}
}

// strangeDraw gives a number at or beyond a limit of this chapter, or a small one.
func strangeDraw(next func(int) int) int {
	return coinOf(next, append(drawEdges(), -2, 2, 3, 23, 24, 25, 59, 60, 61, mostColor, mostColor+1, math.MinInt))
}

func coinSheet(next func(int) int) impl.Sheet {
	s := plainSheet(1+next(mostSide), 1+next(mostSide), 0)
	for i := range s.Pixels {
		s.Pixels[i] = next(4096)<<12 | next(4096)
	}
	switch next(8) {
	case 0:
		s.Wide = strangeDraw(next)
	case 1:
		s.High = strangeDraw(next)
	case 2:
		s.Pixels[next(len(s.Pixels))] = strangeDraw(next)
	case 3:
		s.Pixels = s.Pixels[:next(len(s.Pixels)+1)]
	}
	return s
}

// Promise 29.
func TestDrawingAnswersAtAnyArguments(t *testing.T) {
	kinds := map[string]int{}
	for seed := range 2000 {
		next := coinRow(seed + 2920)
		var l []impl.Item
		for range next(40) * (1 + next(2)) {
			l = append(l, nearItem(next))
		}
		if len(l) > 0 && next(3) == 0 {
			*coinOf(next, itemFields(&l[next(len(l))])) = strangeDraw(next)
		}
		box := impl.Placed{X: next(20) - 5, Y: next(20) - 5, W: next(20), H: next(20)}
		if next(3) == 0 {
			*coinOf(next, []*int{&box.X, &box.Y, &box.W, &box.H}) = strangeDraw(next)
		}
		s, color := coinSheet(next), next(4096)
		ends := [4]int{next(60) - 20, next(60) - 20, next(60) - 20, next(60) - 20}
		if next(3) == 0 {
			color, ends[next(4)] = strangeDraw(next), strangeDraw(next)
		}
		for what, good := range map[string]bool{"items": slowGoodItems(l), "box": slowGoodArea(box), "sheet": slowGoodSheet(s), "color": within(0, color, mostColor)} {
			kinds[fmt.Sprint(what, " ", good)]++
		}
		for _, x := range l[:min(len(l), 2)] {
			wantGoodItem(t, "any", x, slowGoodItem(x))
			wantSlowKey(t, "any", x)
		}
		wantSlowParts(t, "any", strangeDraw(next)*strangeDraw(next))
		wantSlowDrawn(t, "any", l, box)
		wantSheetTaken(t, "any", s, slowGoodSheet(s))
		wantSlowPaintBox(t, "any", s, box, color)
		wantSlowPaintLine(t, "any", s, ends, color)
	}
	for _, kind := range []string{"items true", "items false", "box true", "box false", "sheet true", "sheet false", "color true", "color false"} {
		if kinds[kind] < 200 {
			t.Error(kinds)
		}
	}
}

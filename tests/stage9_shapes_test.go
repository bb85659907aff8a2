package tests

import (
	"fmt"
	"math"
	"math/big"
	"slices"
	"testing"

	"loop.example/g00064/impl"
)

const mostShapes = 40
const mostSize = 1000
const farSpan = 100000

func boxOf(x int, y int, w int, h int) impl.Shape {
	return impl.Shape{Kind: impl.ShapeBox, X: x, Y: y, W: w, H: h}
}

func diskOf(x int, y int, reach int) impl.Shape {
	return impl.Shape{Kind: impl.ShapeDisk, X: x, Y: y, W: reach}
}

func shapesOf(l ...impl.Shape) []impl.Shape { return l }

// pairsOf gives pairs out of their numbers, one behind the other.
func pairsOf(numbers ...int) []impl.Pair {
	var out []impl.Pair
	for i := 0; i < len(numbers); i += 2 {
		out = append(out, impl.Pair{A: numbers[i], B: numbers[i+1]})
	}
	return out
}

// meetsOf gives meets out of number, num and den, one behind the other.
func meetsOf(numbers ...int) []impl.Meet {
	var out []impl.Meet
	for i := 0; i < len(numbers); i += 3 {
		out = append(out, impl.Meet{Shape: numbers[i], Num: numbers[i+1], Den: numbers[i+2]})
	}
	return out
}

// manyBoxes gives so many boxes in a row, each of which touches the one ahead alone.
func manyBoxes(many int) []impl.Shape {
	var out []impl.Shape
	for i := range many {
		out = append(out, boxOf(3*i, 0, 3, 1))
	}
	return out
}

func goodShapes() map[string]impl.Shape {
	const far = farSpan
	return map[string]impl.Shape{
		"a box":                boxOf(0, 0, 2, 2),
		"a flat box":           boxOf(3, -4, 7, 1),
		"a high box":           boxOf(-3, 4, 1, 7),
		"the least box":        boxOf(0, 0, 1, 1),
		"the greatest box":     boxOf(0, 0, mostSize, mostSize),
		"a box, least X":       boxOf(-far, 0, 2, 2),
		"a box, most X":        boxOf(far, 0, 2, 2),
		"a box, least Y":       boxOf(0, -far, 2, 2),
		"a box, most Y":        boxOf(0, far, 2, 2),
		"a box, all at most":   boxOf(far, far, mostSize, mostSize),
		"a box, all at least":  boxOf(-far, -far, 1, 1),
		"a disk":               diskOf(0, 0, 5),
		"the least disk":       diskOf(4, 4, 1),
		"the greatest disk":    diskOf(-4, 4, mostSize),
		"a disk, least X":      diskOf(-far, 0, 2),
		"a disk, most X":       diskOf(far, 0, 2),
		"a disk, least Y":      diskOf(0, -far, 2),
		"a disk, most Y":       diskOf(0, far, 2),
		"a disk, all at most":  diskOf(far, far, mostSize),
		"a disk, all at least": diskOf(-far, -far, 1),
	}
}

// badShapes holds shapes that are not good, in each way that the document names.
func badShapes() map[string]impl.Shape {
	out := map[string]impl.Shape{
		"nothing":                {},
		"a box without a kind":   {X: 1, Y: 1, W: 2, H: 2},
		"a disk without a kind":  {X: 1, Y: 1, W: 2},
		"a disk with H":          {Kind: impl.ShapeDisk, W: 2, H: 1},
		"a disk with H as W":     {Kind: impl.ShapeDisk, W: 2, H: 2},
		"a disk with H below 0":  {Kind: impl.ShapeDisk, W: 2, H: -1},
		"a disk with H far off":  {Kind: impl.ShapeDisk, W: 2, H: math.MaxInt},
		"a disk with H far less": {Kind: impl.ShapeDisk, W: 2, H: math.MinInt},
	}
	for _, kind := range []int{0, 3, -1, -2, 4, 257, 258, 1<<32 + 1, 1<<32 + 2, math.MinInt, math.MaxInt} {
		out[fmt.Sprint("a box of the kind ", kind)] = impl.Shape{Kind: kind, W: 2, H: 2}
		out[fmt.Sprint("a disk of the kind ", kind)] = impl.Shape{Kind: kind, W: 2}
	}
	for _, off := range []int{-farSpan - 1, farSpan + 1, math.MinInt, math.MaxInt, math.MinInt + 1} {
		out[fmt.Sprint("a box, X ", off)] = boxOf(off, 0, 2, 2)
		out[fmt.Sprint("a box, Y ", off)] = boxOf(0, off, 2, 2)
		out[fmt.Sprint("a disk, X ", off)] = diskOf(off, 0, 2)
		out[fmt.Sprint("a disk, Y ", off)] = diskOf(0, off, 2)
	}
	for _, size := range []int{0, -1, -mostSize, mostSize + 1, math.MinInt, math.MaxInt} {
		out[fmt.Sprint("a box, W ", size)] = boxOf(0, 0, size, 2)
		out[fmt.Sprint("a box, H ", size)] = boxOf(0, 0, 2, size)
		out[fmt.Sprint("a disk, W ", size)] = diskOf(0, 0, size)
	}
	return out
}

func slowGoodShape(s impl.Shape) bool {
	within := func(x int, least int, most int) bool {
		n := big.NewInt(int64(x))
		return n.Cmp(big.NewInt(int64(least))) >= 0 && n.Cmp(big.NewInt(int64(most))) <= 0
	}
	if !within(s.X, -farSpan, farSpan) || !within(s.Y, -farSpan, farSpan) || !within(s.W, 1, mostSize) {
		return false
	}
	return s.Kind == 1 && within(s.H, 1, mostSize) || s.Kind == 2 && within(s.H, 0, 0)
}

func slowGoodShapes(l []impl.Shape) bool {
	for _, s := range l {
		if !slowGoodShape(s) {
			return false
		}
	}
	return len(l) <= mostShapes
}

// slowHasAt tells whether a good shape has the place of these fractions.
func slowHasAt(s impl.Shape, x *big.Rat, y *big.Rat) bool {
	whole := func(n int) *big.Rat { return new(big.Rat).SetInt64(int64(n)) }
	right, above := new(big.Rat).Sub(x, whole(s.X)), new(big.Rat).Sub(y, whole(s.Y))
	if s.Kind == 1 {
		return right.Sign() >= 0 && above.Sign() >= 0 && right.Cmp(whole(s.W)) <= 0 && above.Cmp(whole(s.H)) <= 0
	}
	away := new(big.Rat).Add(right.Mul(right, right), above.Mul(above, above))
	return away.Cmp(whole(s.W*s.W)) <= 0
}

func slowHasPlace(s impl.Shape, x int, y int) bool {
	return slowGoodShape(s) && slowHasAt(s, new(big.Rat).SetInt64(int64(x)), new(big.Rat).SetInt64(int64(y)))
}

func slowBounds(s impl.Shape) [4]int {
	switch {
	case !slowGoodShape(s):
		return [4]int{}
	case s.Kind == 1:
		return [4]int{s.X, s.Y, s.X + s.W, s.Y + s.H}
	}
	return [4]int{s.X - s.W, s.Y - s.W, s.X + s.W, s.Y + s.W}
}

// witness gives the place that two shapes have in common if they have one at all: where each is a
// box the inner of their edges, where one is a disk the place of the box next to its middle, and
// between two disks the place that parts the way as their reaches do.
func witness(a impl.Shape, b impl.Shape) (*big.Rat, *big.Rat) {
	if a.Kind == 2 && b.Kind == 2 {
		part := func(from int, to int) *big.Rat {
			return big.NewRat(int64(from*b.W+to*a.W), int64(a.W+b.W))
		}
		return part(a.X, b.X), part(a.Y, b.Y)
	}
	if a.Kind == 2 {
		return witness(b, a)
	}
	next := func(least int, many int, to int) *big.Rat {
		return new(big.Rat).SetInt64(int64(slices.Sorted(slices.Values([]int{least, least + many, to}))[1]))
	}
	return next(a.X, a.W, b.X), next(a.Y, a.H, b.Y)
}

func slowTouch(a impl.Shape, b impl.Shape) bool {
	if !slowGoodShape(a) || !slowGoodShape(b) {
		return false
	}
	x, y := witness(a, b)
	return slowHasAt(a, x, y) && slowHasAt(b, x, y)
}

func slowPairs(l []impl.Shape) ([]impl.Pair, bool) {
	if !slowGoodShapes(l) {
		return nil, false
	}
	var out []impl.Pair
	for b := range l {
		for a := range b {
			if slowTouch(l[a], l[b]) {
				out = append(out, impl.Pair{A: a, B: b})
			}
		}
	}
	slices.SortFunc(out, func(p impl.Pair, q impl.Pair) int {
		return slices.Compare([]int{p.A, p.B}, []int{q.A, q.B})
	})
	return out, true
}

// slowLooked counts the pairs of which one is gone through ahead and reaches to the other's least x.
func slowLooked(l []impl.Shape) int {
	many := 0
	for a := range l {
		for b := range l {
			one, other := slowBounds(l[a]), slowBounds(l[b])
			ahead := one[0] < other[0] || one[0] == other[0] && a < b
			if ahead && one[2] >= other[0] {
				many++
			}
		}
	}
	return many
}

// slowMeets asks of each t at which the ray could come into a box: 0, and those of the box's four edges.
func slowMeets(l []impl.Shape, x int, y int, dx int, dy int) ([]impl.Meet, bool) {
	for _, n := range []int{x, y, dx, dy} {
		if n < -farSpan || n > farSpan {
			return nil, false
		}
	}
	if !slowGoodShapes(l) || dx == 0 && dy == 0 {
		return nil, false
	}
	at := func(from int, step int, t *big.Rat) *big.Rat {
		way := new(big.Rat).Mul(t, new(big.Rat).SetInt64(int64(step)))
		return way.Add(way, new(big.Rat).SetInt64(int64(from)))
	}
	type met struct {
		t      *big.Rat
		number int
	}
	var found []met
	for number, s := range l {
		times := []*big.Rat{new(big.Rat)}
		if dx != 0 {
			times = append(times, big.NewRat(int64(s.X-x), int64(dx)), big.NewRat(int64(s.X+s.W-x), int64(dx)))
		}
		if dy != 0 {
			times = append(times, big.NewRat(int64(s.Y-y), int64(dy)), big.NewRat(int64(s.Y+s.H-y), int64(dy)))
		}
		var first *big.Rat
		for _, t := range times {
			if s.Kind == 1 && t.Sign() >= 0 && slowHasAt(s, at(x, dx, t), at(y, dy, t)) && (first == nil || t.Cmp(first) < 0) {
				first = t
			}
		}
		if first != nil {
			found = append(found, met{first, number})
		}
	}
	slices.SortStableFunc(found, func(m met, n met) int { return m.t.Cmp(n.t) })
	var out []impl.Meet
	for _, m := range found {
		out = append(out, impl.Meet{Shape: m.number, Num: int(m.t.Num().Int64()), Den: int(m.t.Denom().Int64())})
	}
	return out, true
}

func wantHas(t *testing.T, what string, s impl.Shape, x int, y int, want bool) {
	t.Helper()
	if got := purely(t, "HasPlace", impl.HasPlace, s, x, y); got[0] != want {
		t.Errorf("%s: HasPlace %v, %d, %d = %v, want %v", what, s, x, y, got[0], want)
	}
}

// wantTouch asks both ways round, in the plane, mirrored, and with x and y the other way round.
func wantTouch(t *testing.T, what string, a impl.Shape, b impl.Shape, want bool) {
	t.Helper()
	for _, turn := range []func(impl.Shape) impl.Shape{asItIs, overTheDiagonal, mirroredShape} {
		c, d := turn(a), turn(b)
		if slowGoodShape(a) != slowGoodShape(c) || slowGoodShape(b) != slowGoodShape(d) {
			continue // A box at the limit may lie beyond it when it is mirrored.
		}
		if got := purely(t, "Touch", impl.Touch, c, d); got[0] != want {
			t.Errorf("%s: Touch %v, %v = %v, want %v", what, c, d, got[0], want)
		}
		if got := purely(t, "Touch", impl.Touch, d, c); got[0] != want {
			t.Errorf("%s: Touch %v, %v = %v, want %v", what, d, c, got[0], want)
		}
	}
}

func asItIs(s impl.Shape) impl.Shape { return s }

func overTheDiagonal(s impl.Shape) impl.Shape {
	out := impl.Shape{Kind: s.Kind, X: s.Y, Y: s.X, W: s.H, H: s.W}
	if s.Kind == impl.ShapeDisk {
		out.W, out.H = s.W, s.H
	}
	return out
}

func mirroredShape(s impl.Shape) impl.Shape {
	out := s
	out.X = -s.X
	if s.Kind == impl.ShapeBox {
		out.X = -s.X - s.W
	}
	return out
}

func wantPairs(t *testing.T, what string, l []impl.Shape, want []impl.Pair, good bool) {
	t.Helper()
	got := purely(t, "AllPairs", impl.AllPairs, l)
	if !alike(got[0], want) || got[1] != good {
		t.Errorf("%s: AllPairs %v = %v, want %v, %v", what, l, got, want, good)
	}
}

func wantSweep(t *testing.T, what string, l []impl.Shape, want []impl.Pair, looked int, good bool) {
	t.Helper()
	got := purely(t, "SweepPairs", impl.SweepPairs, l)
	if !alike(got[0], want) || got[1] != looked || got[2] != good {
		t.Errorf("%s: SweepPairs %v = %v, want %v, %v, %v", what, l, got, want, looked, good)
	}
}

func wantMeets(t *testing.T, what string, l []impl.Shape, x int, y int, dx int, dy int, want []impl.Meet, good bool) {
	t.Helper()
	got := purely(t, "RayMeets", impl.RayMeets, l, x, y, dx, dy)
	if !alike(got[0], want) || got[1] != good {
		t.Errorf("%s: RayMeets %v, %d, %d, %d, %d = %v, want %v, %v", what, l, x, y, dx, dy, got, want, good)
	}
}

func TestShapeConstants(t *testing.T) {
	got := [5]int{impl.MaxShapes, impl.MaxSize, impl.MaxSpan, impl.ShapeBox, impl.ShapeDisk}
	if got != [5]int{mostShapes, mostSize, farSpan, 1, 2} {
		t.Error(got)
	}
}

func TestGoodShape(t *testing.T) {
	for what, s := range goodShapes() {
		if !slowGoodShape(s) || purely(t, what, impl.GoodShape, s)[0] != true {
			t.Error(what, s, "is not good")
		}
	}
	for what, s := range badShapes() {
		if slowGoodShape(s) || purely(t, what, impl.GoodShape, s)[0] != false {
			t.Error(what, s, "is good")
		}
	}
}

func TestBounds(t *testing.T) {
	const far, size = farSpan, mostSize
	told := map[impl.Shape][4]int{
		boxOf(0, 0, 2, 3):                 {0, 0, 2, 3},
		boxOf(-5, 7, 1, 10):               {-5, 7, -4, 17},
		boxOf(-far, -far, 1, 1):           {-far, -far, 1 - far, 1 - far},
		boxOf(far, far, size, size):       {far, far, far + size, far + size},
		boxOf(far, -far, size, 1):         {far, -far, far + size, 1 - far},
		diskOf(0, 0, 1):                   {-1, -1, 1, 1},
		diskOf(4, -1, 2):                  {2, -3, 6, 1},
		diskOf(-far, far, size):           {-far - size, far - size, size - far, far + size},
		diskOf(far, -far, size):           {far - size, -far - size, far + size, size - far},
		{Kind: 2, X: 4, Y: 1, W: 2}:       {2, -1, 6, 3},
		{Kind: 1, X: 4, Y: 1, W: 2}:       {},
		{Kind: 3, X: 4, Y: 1, W: 2}:       {},
		{Kind: 2, X: 4, Y: 1, W: 2, H: 2}: {},
	}
	for s, want := range told {
		got := purely(t, "Bounds", impl.Bounds, s)
		if [4]any{got[0], got[1], got[2], got[3]} != [4]any{want[0], want[1], want[2], want[3]} {
			t.Error("Bounds", s, got, "want", want)
		}
	}
	for what, s := range badShapes() {
		if got := purely(t, "Bounds", impl.Bounds, s); !alike(got, []any{0, 0, 0, 0}) {
			t.Error(what, s, got)
		}
	}
}

// The bounds are those of the places: a shape has places on each of them, and none beyond.
func TestBoundsAreMet(t *testing.T) {
	for what, s := range goodShapes() {
		left, low, right, high := impl.Bounds(s)
		midX, midY := (left+right)/2, (low+high)/2
		if s.Kind == impl.ShapeDisk {
			midX, midY = s.X, s.Y
		}
		wantHas(t, what, s, left, midY, true)
		wantHas(t, what, s, right, midY, true)
		wantHas(t, what, s, midX, low, true)
		wantHas(t, what, s, midX, high, true)
		wantHas(t, what, s, left-1, midY, false)
		wantHas(t, what, s, right+1, midY, false)
		wantHas(t, what, s, midX, low-1, false)
		wantHas(t, what, s, midX, high+1, false)
		corner := s.Kind == impl.ShapeBox
		wantHas(t, what, s, left, low, corner)
		wantHas(t, what, s, right, low, corner)
		wantHas(t, what, s, right, high, corner)
		wantHas(t, what, s, left, high, corner)
	}
}

func TestHasPlace(t *testing.T) {
	box, disk := boxOf(1, 2, 3, 4), diskOf(0, 0, 5)
	told := []struct {
		what string
		s    impl.Shape
		x    int
		y    int
		want bool
	}{
		{"within", box, 2, 3, true},
		{"the first corner", box, 1, 2, true},
		{"the last corner", box, 4, 6, true},
		{"the other corners", box, 4, 2, true},
		{"the other corners", box, 1, 6, true},
		{"the left edge", box, 1, 4, true},
		{"the right edge", box, 4, 4, true},
		{"the low edge", box, 2, 2, true},
		{"the high edge", box, 2, 6, true},
		{"one left of it", box, 0, 4, false},
		{"one right of it", box, 5, 4, false},
		{"one below it", box, 2, 1, false},
		{"one above it", box, 2, 7, false},
		{"beyond a corner", box, 0, 1, false},
		{"the middle", disk, 0, 0, true},
		{"the rim, aside", disk, -5, 0, true},
		{"the rim, above", disk, 0, 5, true},
		{"the rim, between", disk, 3, 4, true},
		{"the rim, between", disk, -4, 3, true},
		{"the rim, between", disk, 4, -3, true},
		{"beyond the rim", disk, 4, 4, false},
		{"beyond the rim", disk, -5, 1, false},
		{"beyond the rim", disk, 6, 0, false},
		{"beyond the rim", disk, 0, -6, false},
		{"a corner of its bounds", disk, 5, 5, false},
		{"the greatest rim", diskOf(0, 0, mostSize), 600, -800, true},
		{"by the greatest rim", diskOf(0, 0, mostSize), 601, -800, false},
		{"far out, the rim", diskOf(farSpan, -farSpan, 1), farSpan + 1, -farSpan, true},
		{"far out, the corner", boxOf(farSpan, farSpan, 1, 1), farSpan + 1, farSpan + 1, true},
	}
	for _, c := range told {
		wantHas(t, c.what, c.s, c.x, c.y, c.want)
	}
}

// Squares of far places don't fit into an int: 2^32 squared would be 0 there.
func TestFarPlaces(t *testing.T) {
	far := []int{math.MinInt, math.MinInt + 1, math.MinInt + 5, math.MaxInt, math.MaxInt - 1, math.MaxInt - 4,
		1 << 31, 1 << 32, -1 << 32, 3 << 32, 1 << 33, 1 << 62, -1 << 62, 1<<32 + 1, 3037000500, -3037000500}
	near := []int{0, 1, -1, 3, farSpan, -farSpan}
	for what, s := range goodShapes() {
		for _, a := range far {
			for _, b := range append(near, far...) {
				wantHas(t, what, s, a, b, false)
				wantHas(t, what, s, b, a, false)
				wantHas(t, what, s, s.X+a, s.Y, false)
				wantHas(t, what, s, s.X, s.Y+a, false)
			}
		}
	}
	for what, s := range badShapes() {
		wantHas(t, what, s, 0, 0, false)
		wantHas(t, what, s, s.X, s.Y, false)
	}
}

func TestPlacesOfSmallShapes(t *testing.T) {
	for size := 1; size <= 6; size++ {
		for x := -9; x <= 9; x++ {
			for y := -9; y <= 9; y++ {
				for _, s := range shapesOf(diskOf(1, -1, size), boxOf(-2, 1, size, 7-size)) {
					wantHas(t, "small", s, x, y, slowHasPlace(s, x, y))
				}
			}
		}
	}
}

func TestBoxesTouch(t *testing.T) {
	const far, size = farSpan, mostSize
	box := boxOf(0, 0, 4, 4)
	told := []struct {
		what string
		a    impl.Shape
		b    impl.Shape
		want bool
	}{
		{"itself", box, box, true},
		{"in part", box, boxOf(2, 2, 4, 4), true},
		{"like a cross", boxOf(0, 3, 9, 1), boxOf(3, 0, 1, 9), true},
		{"one in the other", box, boxOf(1, 1, 2, 2), true},
		{"one in the other, at its edge", box, boxOf(0, 1, 2, 2), true},
		{"one in the other, in its corner", box, boxOf(3, 3, 1, 1), true},
		{"along an edge", box, boxOf(4, 0, 4, 4), true},
		{"along a part of an edge", box, boxOf(4, 2, 4, 1), true},
		{"at a corner", box, boxOf(4, 4, 1, 1), true},
		{"at a corner, the other way", box, boxOf(4, -1, 1, 1), true},
		{"one apart", box, boxOf(5, 0, 4, 4), false},
		{"one apart from a corner", box, boxOf(5, 5, 4, 4), false},
		{"one apart from a corner, aside alone", box, boxOf(5, 4, 4, 4), false},
		{"one apart, the other way", box, boxOf(-5, 0, 4, 4), false},
		{"one apart from a corner, the other way", box, boxOf(5, -1, 1, 1), false},
		{"one above the other", box, boxOf(0, 100, 4, 4), false},
		{"far out", boxOf(far, far, size, size), boxOf(far-1, far-1, 1, 1), true},
		{"from end to end", boxOf(-far, 0, 1, 1), boxOf(far, 0, 1, 1), false},
	}
	for _, c := range told {
		wantTouch(t, c.what, c.a, c.b, c.want)
		if slowTouch(c.a, c.b) != c.want {
			t.Error(c.what, "is told wrongly")
		}
	}
}

func TestDisksTouch(t *testing.T) {
	const far, size = farSpan, mostSize
	box, disk := boxOf(0, 0, 10, 10), diskOf(0, 0, 5)
	told := []struct {
		what string
		a    impl.Shape
		b    impl.Shape
		want bool
	}{
		{"a box's edge", box, diskOf(12, 5, 2), true},
		{"a box's edge, not quite", box, diskOf(13, 5, 2), false},
		{"a box's edge, near its end", box, diskOf(12, 10, 2), true},
		{"a box's corner just so", box, diskOf(13, 14, 5), true},
		{"a box's corner just not", box, diskOf(14, 14, 5), false},
		{"a box's corner, just beside", box, diskOf(13, 15, 5), false},
		{"the other corner just so", box, diskOf(14, -3, 5), true},
		{"the other corner just not", box, diskOf(14, -4, 5), false},
		{"bounds that touch alone", box, diskOf(15, 15, 5), false},
		{"bounds that are one in another", boxOf(0, 0, 1, 1), diskOf(5, 5, 5), false},
		{"within a box", box, diskOf(5, 5, 2), true},
		{"within a box, at its edge", box, diskOf(2, 5, 2), true},
		{"its middle in a box", box, diskOf(1, 1, 9), true},
		{"its middle at a corner", box, diskOf(10, 10, 1), true},
		{"a box within a disk", boxOf(-1, -1, 2, 2), disk, true},
		{"a box within a disk, aside", boxOf(1, 1, 2, 2), disk, true},
		{"a box within a disk, at its rim", boxOf(3, 3, 1, 1), disk, true},
		{"a box at the rim from without", boxOf(3, 4, 9, 9), disk, true},
		{"a box by the rim from without", boxOf(4, 4, 9, 9), disk, false},
		{"a great box's corner just so", boxOf(0, 0, size, size), diskOf(-600, -800, size), true},
		{"a great box's corner just not", boxOf(0, 0, size, size), diskOf(-601, -800, size), false},
		{"the same disk", disk, disk, true},
		{"disks in part", disk, diskOf(3, 3, 2), true},
		{"disks in one place", disk, diskOf(10, 0, 5), true},
		{"disks in one place, no whole one", disk, diskOf(6, 8, 5), true},
		{"disks in one place, reaches unlike", disk, diskOf(9, 12, 10), true},
		{"disks just apart", disk, diskOf(11, 0, 5), false},
		{"disks just apart, aslant", disk, diskOf(7, 8, 5), false},
		{"disks just apart, reaches unlike", disk, diskOf(9, 13, 10), false},
		{"disks whose bounds touch alone", disk, diskOf(10, 10, 5), false},
		{"a disk in a disk", disk, diskOf(1, 1, 1), true},
		{"a disk in a disk, one middle", disk, diskOf(0, 0, 1), true},
		{"a disk in a disk, at the rim", disk, diskOf(3, 0, 2), true},
		{"great disks just so", diskOf(0, 0, size), diskOf(1200, 1600, size), true},
		{"great disks just not", diskOf(0, 0, size), diskOf(1201, 1600, size), false},
		{"far out, just so", diskOf(far, far, 5), boxOf(far-4, far-5, 1, 1), true},
		{"far out, just not", diskOf(far, far, 5), boxOf(far-5, far-5, 1, 1), false},
		{"from end to end", diskOf(-far, -far, size), diskOf(far, far, size), false},
		{"from end to end with a box", diskOf(-far, -far, size), boxOf(far, far, size, size), false},
	}
	for _, c := range told {
		wantTouch(t, c.what, c.a, c.b, c.want)
		if slowTouch(c.a, c.b) != c.want {
			t.Error(c.what, "is told wrongly")
		}
	}
}

func TestBadShapesTouchNothing(t *testing.T) {
	for what, s := range badShapes() {
		for _, good := range shapesOf(boxOf(0, 0, 2, 2), diskOf(0, 0, 2), boxOf(-500, -500, 1000, 1000)) {
			for _, got := range []any{purely(t, what, impl.Touch, s, good)[0], purely(t, what, impl.Touch, good, s)[0], purely(t, what, impl.Touch, s, s)[0]} {
				if got != false {
					t.Error(what, s, "touches", good)
				}
			}
		}
	}
}

func TestEveryGoodShapeTouchesItself(t *testing.T) {
	for what, s := range goodShapes() {
		wantTouch(t, what, s, s, true)
		if s.X < farSpan {
			next := s
			next.X++
			wantTouch(t, what, s, next, true)
		}
	}
}

// Small shapes at all places round each other: where they touch a box has a whole place in common
// with the other, so that going over all of its places finds it.
func TestTouchIsAPlaceInCommon(t *testing.T) {
	inCommon := func(box impl.Shape, other impl.Shape) bool {
		for x := box.X; x <= box.X+box.W; x++ {
			for y := box.Y; y <= box.Y+box.H; y++ {
				if slowHasPlace(other, x, y) {
					return true
				}
			}
		}
		return false
	}
	box := boxOf(0, 0, 3, 2)
	for x := -9; x <= 12; x++ {
		for y := -9; y <= 12; y++ {
			for _, other := range shapesOf(boxOf(x, y, 2, 1), diskOf(x, y, 1), diskOf(x, y, 5)) {
				if want := inCommon(box, other); impl.Touch(box, other) != want || impl.Touch(other, box) != want {
					t.Error(box, other, "touch:", !want)
				}
			}
		}
	}
}

func TestSweepTold(t *testing.T) {
	box, disk := boxOf(0, 0, 2, 2), diskOf(4, 1, 2)
	told := []struct {
		what   string
		l      []impl.Shape
		want   []impl.Pair
		looked int
	}{
		{"no shape", nil, nil, 0},
		{"an empty list", []impl.Shape{}, nil, 0},
		{"a box", shapesOf(box), nil, 0},
		{"a disk", shapesOf(disk), nil, 0},
		{"a box and a disk", shapesOf(box, disk), pairsOf(0, 1), 1},
		{"a disk and a box", shapesOf(disk, box), pairsOf(0, 1), 1},
		{"the same box twice", shapesOf(box, box), pairsOf(0, 1), 1},
		{"the same disk thrice", shapesOf(disk, disk, disk), pairsOf(0, 1, 0, 2, 1, 2), 3},
		{"one least x, apart", shapesOf(box, boxOf(0, 9, 9, 2), diskOf(1, 20, 1)), nil, 3},
		{"one least x, the last two touch", shapesOf(box, boxOf(0, 9, 9, 2), diskOf(1, 12, 1)), pairsOf(1, 2), 3},
		{"a greatest x that is the next one's least", shapesOf(box, boxOf(2, 9, 2, 2)), nil, 1},
		{"a greatest x that is one less", shapesOf(box, boxOf(3, 0, 2, 2)), nil, 0},
		{"a disk's greatest x that is the next one's least", shapesOf(disk, boxOf(6, 9, 2, 2)), nil, 1},
		{"a disk's greatest x that is one less", shapesOf(disk, boxOf(7, 1, 2, 2)), nil, 0},
		{"a greatest x that is a disk's least", shapesOf(box, diskOf(4, 9, 2)), nil, 1},
		{"a greatest x that is one less than a disk's", shapesOf(box, diskOf(5, 1, 2)), nil, 0},
		{"looked at, bounds touch alone", shapesOf(diskOf(0, 0, 5), diskOf(8, 8, 5)), nil, 1},
		{"a long one over short ones", shapesOf(boxOf(0, 0, 100, 1), boxOf(10, 1, 1, 1), boxOf(20, 2, 1, 1), boxOf(30, 0, 1, 1)), pairsOf(0, 1, 0, 3), 3},
		{"a long one over short ones, last", shapesOf(boxOf(30, 0, 1, 1), boxOf(20, 2, 1, 1), boxOf(10, 1, 1, 1), boxOf(0, 0, 100, 1)), pairsOf(0, 3, 2, 3), 3},
		{"from the right", shapesOf(boxOf(8, 0, 4, 1), boxOf(4, 0, 4, 1), boxOf(0, 0, 4, 1)), pairsOf(0, 1, 1, 2), 2},
		{"a short one between long ones", shapesOf(boxOf(0, 0, 9, 1), boxOf(1, 0, 1, 1), boxOf(3, 1, 9, 1)), pairsOf(0, 1, 0, 2), 2},
		{"MaxShapes", manyBoxes(mostShapes), nil, mostShapes - 1},
		{"MaxShapes of one kind", slices.Repeat(shapesOf(box), mostShapes), nil, mostShapes * (mostShapes - 1) / 2},
		{"from end to end", shapesOf(diskOf(farSpan, 0, mostSize), boxOf(-farSpan, 0, mostSize, 1)), nil, 0},
	}
	for _, c := range told {
		want := c.want
		if len(c.l) == mostShapes {
			want, _ = slowPairs(c.l)
		}
		wantPairs(t, c.what, c.l, want, true)
		wantSweep(t, c.what, c.l, want, c.looked, true)
	}
	row, _ := impl.AllPairs(manyBoxes(mostShapes))
	all, _ := impl.AllPairs(slices.Repeat(shapesOf(box), mostShapes))
	if len(row) != mostShapes-1 || row[38] != (impl.Pair{A: 38, B: 39}) || len(all) != 780 || all[40] != (impl.Pair{A: 1, B: 3}) {
		t.Error(row, all)
	}
}

// badLists holds lists of shapes that are not good.
func badLists() map[string][]impl.Shape {
	box := boxOf(0, 0, 2, 2)
	out := map[string][]impl.Shape{
		"one too many":            manyBoxes(mostShapes + 1),
		"one too many, all alike": slices.Repeat(shapesOf(box), mostShapes+1),
		"far too many":            slices.Repeat(shapesOf(box), 300),
		"the last one is bad":     append(manyBoxes(mostShapes-1), impl.Shape{}),
		"too many, one is bad":    append(manyBoxes(mostShapes), impl.Shape{}),
	}
	for what, s := range badShapes() {
		out["alone: "+what] = shapesOf(s)
		out["first: "+what] = shapesOf(s, box, box)
		out["between: "+what] = shapesOf(box, s, box)
		out["last: "+what] = shapesOf(box, box, s)
		out["among disks: "+what] = shapesOf(diskOf(0, 0, 1), s)
	}
	return out
}

func TestBadListsOfShapes(t *testing.T) {
	for what, l := range badLists() {
		wantPairs(t, what, l, nil, false)
		wantSweep(t, what, l, nil, 0, false)
		wantMeets(t, what, l, -1, 1, 1, 0, nil, false)
	}
}

// rayCase is a ray with what it meets.
type rayCase struct {
	what string
	l    []impl.Shape
	ray  [4]int
	want []impl.Meet
}

func raysAtOneBox() []rayCase {
	one := shapesOf(boxOf(5, 0, 2, 2))
	return []rayCase{
		{"ahead", one, [4]int{0, 1, 2, 0}, meetsOf(0, 5, 2)},
		{"ahead, a whole t", one, [4]int{0, 1, 1, 0}, meetsOf(0, 5, 1)},
		{"ahead, far steps", one, [4]int{0, 1, 5, 0}, meetsOf(0, 1, 1)},
		{"ahead, a divisor in common", one, [4]int{0, 1, 10, 0}, meetsOf(0, 1, 2)},
		{"ahead, two divisors in common", one, [4]int{-1, 1, 36, 0}, meetsOf(0, 1, 6)},
		{"ahead, the longest step", one, [4]int{0, 1, farSpan, 0}, meetsOf(0, 1, 20000)},
		{"from the right", one, [4]int{10, 1, -2, 0}, meetsOf(0, 3, 2)},
		{"from the right, a whole t", one, [4]int{10, 1, -1, 0}, meetsOf(0, 3, 1)},
		{"from below", one, [4]int{6, -3, 0, 2}, meetsOf(0, 3, 2)},
		{"from above", one, [4]int{6, 7, 0, -10}, meetsOf(0, 1, 2)},
		{"aslant, in by the left edge", one, [4]int{2, -2, 2, 2}, meetsOf(0, 3, 2)},
		{"aslant, in by the low edge", one, [4]int{3, -3, 3, 3}, meetsOf(0, 1, 1)},
		{"aslant, in by the high edge", one, [4]int{5, 5, 1, -4}, meetsOf(0, 3, 4)},
		{"aslant, in by the right edge", one, [4]int{9, 2, -3, -1}, meetsOf(0, 2, 3)},
		{"begins within", one, [4]int{6, 1, 1, 1}, meetsOf(0, 0, 1)},
		{"begins within, far steps", one, [4]int{6, 1, -farSpan, farSpan}, meetsOf(0, 0, 1)},
		{"begins on the left edge, goes in", one, [4]int{5, 1, 3, 0}, meetsOf(0, 0, 1)},
		{"begins on the left edge, goes out", one, [4]int{5, 1, -3, 0}, meetsOf(0, 0, 1)},
		{"begins on the right edge, goes out", one, [4]int{7, 1, 3, 0}, meetsOf(0, 0, 1)},
		{"begins on the low edge, goes out", one, [4]int{6, 0, 0, -7}, meetsOf(0, 0, 1)},
		{"begins on the high edge, goes along", one, [4]int{6, 2, 4, 0}, meetsOf(0, 0, 1)},
		{"begins at a corner, goes out", one, [4]int{5, 0, -2, -2}, meetsOf(0, 0, 1)},
		{"begins at a corner, goes in", one, [4]int{7, 2, -2, -2}, meetsOf(0, 0, 1)},
		{"begins at a corner, goes by", one, [4]int{5, 2, 1, 1}, meetsOf(0, 0, 1)},
		{"begins one beside the edge, goes out", one, [4]int{4, 1, -3, 0}, nil},
		{"begins one beside the edge, goes along", one, [4]int{4, 1, 0, 3}, nil},
		{"along the low edge", one, [4]int{0, 0, 2, 0}, meetsOf(0, 5, 2)},
		{"along the high edge", one, [4]int{0, 2, 2, 0}, meetsOf(0, 5, 2)},
		{"along the left edge", one, [4]int{5, -4, 0, 8}, meetsOf(0, 1, 2)},
		{"along the right edge", one, [4]int{7, 9, 0, -7}, meetsOf(0, 1, 1)},
		{"one below the low edge", one, [4]int{0, -1, 2, 0}, nil},
		{"one above the high edge", one, [4]int{0, 3, 2, 0}, nil},
		{"one left of the left edge", one, [4]int{4, -4, 0, 8}, nil},
		{"one right of the right edge", one, [4]int{8, 9, 0, -7}, nil},
		{"through the first corner alone", one, [4]int{3, 2, 1, -1}, meetsOf(0, 2, 1)},
		{"through the last corner alone", one, [4]int{3, 6, 2, -2}, meetsOf(0, 2, 1)},
		{"through another corner alone", one, [4]int{4, -3, 3, 3}, meetsOf(0, 1, 1)},
		{"through a corner and on within", one, [4]int{3, -2, 3, 3}, meetsOf(0, 2, 3)},
		{"by the first corner", one, [4]int{3, 1, 1, -1}, nil},
		{"by the first corner, by little", one, [4]int{-farSpan + 5, farSpan, farSpan - 1, -farSpan}, nil},
		{"by the last corner", one, [4]int{3, 7, 2, -2}, nil},
		{"through no corner, bounds of the way alone", one, [4]int{0, 0, 1, 3}, nil},
		{"behind", one, [4]int{10, 1, 1, 0}, nil},
		{"behind, from the left", one, [4]int{0, 1, -1, 0}, nil},
		{"behind, from below", one, [4]int{6, -1, 0, -5}, nil},
		{"behind, from above", one, [4]int{6, 3, 0, 5}, nil},
		{"behind, aslant", one, [4]int{9, 4, 1, 1}, nil},
		{"behind in x alone", one, [4]int{9, -9, 1, 9}, nil},
		{"at its corner's height, away", one, [4]int{8, 2, 1, 0}, nil},
	}
}

func raysFarOut() []rayCase {
	const far, size = farSpan, mostSize
	return []rayCase{
		{"from end to end", shapesOf(boxOf(far, 0, 1, 1)), [4]int{-far, 0, 1, 0}, meetsOf(0, 200000, 1)},
		{"from end to end, the longest step", shapesOf(boxOf(far, 0, 1, 1)), [4]int{-far, 0, far, 0}, meetsOf(0, 2, 1)},
		{"from end to end, a long step", shapesOf(boxOf(far, 0, 1, 1)), [4]int{-far, 0, 99991, 0}, meetsOf(0, 200000, 99991)},
		{"from end to end, back", shapesOf(boxOf(-far, 0, 1, 1)), [4]int{far, 0, -99991, 0}, meetsOf(0, 199999, 99991)},
		{"from low to high", shapesOf(boxOf(0, far, size, size)), [4]int{size, -far, 0, far}, meetsOf(0, 2, 1)},
		{"from high to low", shapesOf(boxOf(0, -far, 1, size)), [4]int{0, far, 0, -far}, meetsOf(0, 199, 100)},
		{"from corner to corner", shapesOf(boxOf(far, far, 1, 1)), [4]int{-far, -far, far, far}, meetsOf(0, 2, 1)},
		{"from corner to corner, by", shapesOf(boxOf(far, far, 1, 1)), [4]int{-far, -far, far, far - 1}, nil},
		{"from corner to corner, back", shapesOf(boxOf(-far, -far, size, size)), [4]int{far, far, -far, -far}, meetsOf(0, 199, 100)},
		{"begins in the greatest corner", shapesOf(boxOf(far, far, size, size)), [4]int{far, far, -far, far}, meetsOf(0, 0, 1)},
		{"begins in the least corner", shapesOf(boxOf(-far, -far, 1, 1)), [4]int{-far, -far, far, -far}, meetsOf(0, 0, 1)},
	}
}

func raysAtMany() []rayCase {
	const far = farSpan
	row := shapesOf(boxOf(9, 0, 1, 1), boxOf(3, 0, 1, 1), boxOf(6, 0, 1, 1))
	return []rayCase{
		{"no shape", nil, [4]int{0, 0, 1, 1}, nil},
		{"a row, by t", row, [4]int{0, 0, 2, 0}, meetsOf(1, 3, 2, 2, 3, 1, 0, 9, 2)},
		{"a row, from the other end", row, [4]int{20, 1, -2, 0}, meetsOf(0, 5, 1, 2, 13, 2, 1, 8, 1)},
		{"a row, from its middle", row, [4]int{6, 1, -3, 0}, meetsOf(2, 0, 1, 1, 2, 3)},
		{"one t, by number", shapesOf(boxOf(4, 0, 1, 1), boxOf(4, -1, 2, 2), boxOf(4, -5, 9, 9)), [4]int{0, 0, 3, 0}, meetsOf(0, 4, 3, 1, 4, 3, 2, 4, 3)},
		{"one t among others", shapesOf(boxOf(8, 0, 1, 1), boxOf(4, 0, 1, 1), boxOf(2, 0, 1, 1), boxOf(4, -1, 9, 1)), [4]int{0, 0, 4, 0}, meetsOf(2, 1, 2, 1, 1, 1, 3, 1, 1, 0, 2, 1)},
		{"one t by x and by y", shapesOf(boxOf(2, 0, 1, 5), boxOf(0, 2, 5, 1)), [4]int{0, 0, 3, 3}, meetsOf(0, 2, 3, 1, 2, 3)},
		{"all at 0", shapesOf(boxOf(0, 0, 1, 1), boxOf(-1, -1, 1, 1), boxOf(-1, 0, 1, 1), boxOf(0, -1, 1, 1)), [4]int{0, 0, 7, 9}, meetsOf(0, 0, 1, 1, 0, 1, 2, 0, 1, 3, 0, 1)},
		{"the same box twice", shapesOf(boxOf(2, 0, 1, 1), boxOf(2, 0, 1, 1)), [4]int{0, 0, 4, 0}, meetsOf(0, 1, 2, 1, 1, 2)},
		{"a disk alone", shapesOf(diskOf(4, 0, 2)), [4]int{0, 0, 1, 0}, nil},
		{"begins within a disk", shapesOf(diskOf(0, 0, 2)), [4]int{0, 0, 1, 0}, nil},
		{"disks among boxes", shapesOf(diskOf(2, 0, 1), boxOf(9, 0, 1, 1), diskOf(9, 0, 3), boxOf(5, 0, 1, 1), diskOf(5, 0, 1)), [4]int{0, 0, 2, 0}, meetsOf(3, 5, 2, 1, 9, 2)},
		{"t that are nearly alike, y first", shapesOf(boxOf(1, 0, 1000, 1000), boxOf(0, 999, 1000, 1000)), [4]int{0, 0, 33, 32968}, meetsOf(1, 999, 32968, 0, 1, 33)},
		{"t that are alike", shapesOf(boxOf(1, 0, 1000, 1000), boxOf(0, 999, 1000, 1000)), [4]int{0, 0, 33, 32967}, meetsOf(0, 1, 33, 1, 1, 33)},
		{"t that are nearly alike, x first", shapesOf(boxOf(1, 0, 1000, 1000), boxOf(0, 999, 1000, 1000)), [4]int{0, 0, 33, 32966}, meetsOf(0, 1, 33, 1, 999, 32966)},
		{"nearly alike at far", shapesOf(boxOf(-far, 500, 1000, 1), boxOf(500-far, 0, 1, 1000)), [4]int{-far, 0, far, far - 1}, meetsOf(1, 1, 200, 0, 500, 99999)},
	}
}

func TestRays(t *testing.T) {
	for _, c := range slices.Concat(raysAtOneBox(), raysFarOut(), raysAtMany()) {
		want, good := slowMeets(c.l, c.ray[0], c.ray[1], c.ray[2], c.ray[3])
		if !good || !alike(want, c.want) {
			t.Error(c.what, "is told wrongly:", c.want, "and", want)
		}
		wantMeets(t, c.what, c.l, c.ray[0], c.ray[1], c.ray[2], c.ray[3], c.want, true)
	}
}

func TestBadRays(t *testing.T) {
	l := shapesOf(boxOf(0, 0, 2, 2), diskOf(0, 0, 2), boxOf(farSpan, farSpan, 2, 2))
	wantMeets(t, "no way", l, 0, 0, 0, 0, nil, false)
	wantMeets(t, "no way, no shape", nil, 0, 0, 0, 0, nil, false)
	wantMeets(t, "no way, elsewhere", l, 50, -50, 0, 0, nil, false)
	for _, off := range []int{-farSpan - 1, farSpan + 1, math.MinInt, math.MaxInt, 1 << 32, -1 << 32} {
		for at := range 4 {
			for _, good := range [][4]int{{0, 0, 1, 1}, {1, 1, 1, 0}, {2, 2, 0, -1}, {0, 0, 0, 0}} {
				ray := good
				ray[at] = off
				wantMeets(t, "beyond", l, ray[0], ray[1], ray[2], ray[3], nil, false)
				wantMeets(t, "beyond, no shape", nil, ray[0], ray[1], ray[2], ray[3], nil, false)
			}
		}
	}
	// At the limit each is still good, by itself and with the others.
	numbers := []int{-farSpan, 0, farSpan}
	for i := range 81 {
		x, y, dx, dy := numbers[i%3], numbers[i/3%3], numbers[i/9%3], numbers[i/27]
		want, good := slowMeets(l, x, y, dx, dy)
		if good != (dx != 0 || dy != 0) {
			t.Fatal("slowMeets", x, y, dx, dy)
		}
		wantMeets(t, "at the limit", l, x, y, dx, dy, want, good)
	}
}

// coinNumber gives a number within so many of 0, on both sides.
func coinNumber(next func(int) int, within int) int { return next(2*within+1) - within }

// coinShape gives a good shape near 0 whose edges often lie on those of others, now and then a great one.
func coinShape(next func(int) int) impl.Shape {
	within, size := 6, 4
	if next(4) == 0 {
		within, size = 900, mostSize
	}
	x, y := coinNumber(next, within), coinNumber(next, within)
	if next(2) == 0 {
		return diskOf(x, y, 1+next(size))
	}
	return boxOf(x, y, 1+next(size), 1+next(size))
}

// coinShapes gives a list of good shapes out of coins, in a row, in a heap or far out.
func coinShapes(seed int) []impl.Shape {
	next := coinRow(seed)
	many := next(10)
	if next(10) == 0 {
		many = next(mostShapes + 1)
	}
	wide := 1 + next(5)*next(40)
	shift := [3]int{0, 0, 98000}[next(3)]
	var out []impl.Shape
	for range many {
		s := coinShape(next)
		if len(out) > 0 && next(8) == 0 {
			s = out[next(len(out))]
		} else {
			s.X += coinNumber(next, wide) + shift
			s.Y -= shift
		}
		out = append(out, s)
	}
	return out
}

func TestTouchByCoins(t *testing.T) {
	kinds := map[[3]int]int{}
	for seed := range 4000 {
		next := coinRow(seed + 1)
		a, b := coinShape(next), coinShape(next)
		want := slowTouch(a, b)
		wantTouch(t, "coins", a, b, want)
		touched := 0
		if want {
			touched = 1
		}
		kinds[[3]int{min(a.Kind, b.Kind), max(a.Kind, b.Kind), touched}]++
	}
	for kind, many := range kinds {
		if len(kinds) != 6 || many < 100 {
			t.Error(kind, many, len(kinds))
		}
	}
}

// Promise 9: the sweep finds just the pairs that touch.
func TestSweepFindsJustThePairsThatTouch(t *testing.T) {
	few, spared := 0, 0
	for seed := range 1500 {
		l := coinShapes(seed + 7)
		want, good := slowPairs(l)
		looked := slowLooked(l)
		wantPairs(t, "coins", l, want, good)
		wantSweep(t, "coins", l, want, looked, good)
		for _, p := range want {
			if !impl.Touch(l[p.A], l[p.B]) {
				t.Errorf("%v, %v: a pair that doesn't touch", l[p.A], l[p.B])
			}
		}
		if len(want) < looked {
			few++
		}
		if looked < len(l)*(len(l)-1)/2 {
			spared++
		}
	}
	if few < 300 || spared < 300 {
		t.Error("fewer pairs than looked at:", few, "fewer looked at than there are:", spared)
	}
}

// Renumbered shapes make the same pairs, under their new numbers, and as many are looked at.
func TestSweepHangsOnNoOrder(t *testing.T) {
	for seed := range 600 {
		l := coinShapes(seed + 900)
		next := coinRow(seed + 5)
		was := counted(len(l))
		for i := range was {
			j := i + next(len(was)-i)
			was[i], was[j] = was[j], was[i]
		}
		var mixed []impl.Shape
		for _, i := range was {
			mixed = append(mixed, l[i])
		}
		pairs, looked, good := impl.SweepPairs(l)
		again, lookedAgain, goodAgain := impl.SweepPairs(mixed)
		var back []impl.Pair
		for _, p := range again {
			back = append(back, impl.Pair{A: min(was[p.A], was[p.B]), B: max(was[p.A], was[p.B])})
		}
		slices.SortFunc(back, func(p impl.Pair, q impl.Pair) int {
			return slices.Compare([]int{p.A, p.B}, []int{q.A, q.B})
		})
		if !good || !goodAgain || looked != lookedAgain || !alike(pairs, back) {
			t.Fatalf("%v and %v: %v, %d and %v, %d", l, mixed, pairs, looked, back, lookedAgain)
		}
	}
}

func counted(many int) []int {
	var out []int
	for i := range many {
		out = append(out, i)
	}
	return out
}

func TestRaysByCoins(t *testing.T) {
	several, alikes := 0, 0
	for seed := range 4000 {
		l := coinShapes(seed + 3000)
		next := coinRow(seed + 11)
		step := 1 + next(4)*next(9)
		x, y, dx, dy := coinNumber(next, 12), coinNumber(next, 12), coinNumber(next, step), coinNumber(next, step)
		if len(l) > 0 && next(2) == 0 {
			// One step of the ray, or a few, leads to a corner of a shape.
			to := l[next(len(l))]
			x, y = to.X-(1+next(3))*dx, to.Y-(1+next(3))*dy
		}
		want, good := slowMeets(l, x, y, dx, dy)
		wantMeets(t, "coins", l, x, y, dx, dy, want, good)
		if len(want) > 1 {
			several++
		}
		for i := range want {
			if i > 0 && want[i].Num == want[i-1].Num && want[i].Den == want[i-1].Den && want[i].Num > 0 {
				alikes++
			}
		}
	}
	if several < 300 || alikes < 100 {
		t.Error("several met:", several, "at one t:", alikes)
	}
}

// Rays in the other direction, over the diagonal and begun further back meet the same boxes.
func TestRaysTurned(t *testing.T) {
	for seed := range 800 {
		l := coinShapes(seed + 9000)
		next := coinRow(seed + 17)
		x, y, dx, dy := coinNumber(next, 9), coinNumber(next, 9), coinNumber(next, 5), coinNumber(next, 5)
		want, good := impl.RayMeets(l, x, y, dx, dy)
		var over []impl.Shape
		for _, s := range l {
			over = append(over, overTheDiagonal(s))
		}
		if slowGoodShapes(over) {
			wantMeets(t, "over the diagonal", over, y, x, dy, dx, want, good)
		}
		longer, goodLonger := impl.RayMeets(l, x, y, 6*dx, 6*dy)
		if good != goodLonger || len(want) != len(longer) {
			t.Fatal(l, x, y, dx, dy, want, longer)
		}
		for i, m := range want {
			if n := longer[i]; n.Shape != m.Shape || 6*n.Num*m.Den != m.Num*n.Den {
				t.Fatal(l, x, y, dx, dy, want, longer)
			}
		}
	}
}

// spoiledShapes gives the list, mostly with something in it that is not good.
func spoiledShapes(l []impl.Shape, next func(int) int) []impl.Shape {
	off := []int{0, -1, 1, 2, 3, mostSize, mostSize + 1, farSpan, -farSpan, farSpan + 1, -farSpan - 1, math.MinInt, math.MaxInt}[next(13)]
	if len(l) == 0 || next(3) == 0 {
		return l
	}
	at := next(len(l))
	switch next(7) {
	case 0:
		l[at].Kind = off
	case 1:
		l[at].X = off
	case 2:
		l[at].Y = off
	case 3:
		l[at].W = off
	case 4:
		l[at].H = off
	case 5:
		for len(l) < mostShapes+next(2) {
			l = append(l, l[at])
		}
	case 6:
		l = append(l, impl.Shape{Kind: next(4), X: next(9), Y: next(9), W: next(3), H: next(3)})
	}
	return l
}

func TestShapesAnswerAtAnyArguments(t *testing.T) {
	lists, rays := [2]int{}, [2]int{}
	count := func(into *[2]int, good bool) {
		if good {
			into[1]++
		} else {
			into[0]++
		}
	}
	for seed := range 2000 {
		next := coinRow(seed + 23)
		l := spoiledShapes(coinShapes(seed+20000), next)
		row := [4]int{coinNumber(next, 9), coinNumber(next, 9), coinNumber(next, 2), coinNumber(next, 2)}
		if next(3) == 0 {
			row[next(4)] = []int{0, farSpan, -farSpan, farSpan + 1, -farSpan - 1, math.MinInt, math.MaxInt}[next(7)]
		}
		for i, s := range l {
			other := l[(i+1)%len(l)]
			if got := purely(t, "GoodShape", impl.GoodShape, s); got[0] != slowGoodShape(s) {
				t.Fatalf("GoodShape %v = %v", s, got)
			}
			bounds := slowBounds(s)
			if got := purely(t, "Bounds", impl.Bounds, s); !alike(got, []any{bounds[0], bounds[1], bounds[2], bounds[3]}) {
				t.Fatalf("Bounds %v = %v", s, got)
			}
			if got := purely(t, "Touch", impl.Touch, s, other); got[0] != slowTouch(s, other) {
				t.Fatalf("Touch %v, %v = %v", s, other, got)
			}
			wantHas(t, "any", s, row[0], row[1], slowHasPlace(s, row[0], row[1]))
		}
		pairs, good := slowPairs(l)
		looked := 0
		if good {
			looked = slowLooked(l)
		}
		wantPairs(t, "any", l, pairs, good)
		wantSweep(t, "any", l, pairs, looked, good)
		meets, met := slowMeets(l, row[0], row[1], row[2], row[3])
		wantMeets(t, "any", l, row[0], row[1], row[2], row[3], meets, met)
		count(&lists, good)
		count(&rays, met)
	}
	if lists[0] < 300 || lists[1] < 300 || rays[0] < 300 || rays[1] < 300 {
		t.Error("bad and good lists:", lists, "bad and good rays:", rays)
	}
}

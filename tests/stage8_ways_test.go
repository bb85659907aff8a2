package tests

import (
	"fmt"
	"math"
	"slices"
	"testing"

	"loop.example/g00064/impl"
)

const mostPoints = 40
const mostFaces = 20
const mostCorners = 8
const farGround = 1000

// spots gives places out of their x and y, one behind the other.
func spots(numbers ...int) []impl.Spot2 {
	var out []impl.Spot2
	for i := 0; i < len(numbers); i += 2 {
		out = append(out, impl.Spot2{X: numbers[i], Y: numbers[i+1]})
	}
	return out
}

func spot2(x int, y int) impl.Spot2 { return impl.Spot2{X: x, Y: y} }

// groundOf lays a ground out of the places of its faces' corners; points are numbered as they come.
func groundOf(faces ...[]impl.Spot2) impl.Ground {
	var g impl.Ground
	for _, corners := range faces {
		g = withFace(g, corners)
	}
	return g
}

// withFace gives a ground of its own memory that has one face more.
func withFace(g impl.Ground, corners []impl.Spot2) impl.Ground {
	points := slices.Clone(g.Points)
	var face []int
	for _, p := range corners {
		number := slices.Index(points, p)
		if number < 0 {
			number = len(points)
			points = append(points, p)
		}
		face = append(face, number)
	}
	return impl.Ground{Points: points, Faces: append(slices.Clone(g.Faces), face)}
}

// cellGround lays a ground of squares ten wide: the one at 2, 1 goes from 20, 10 to 30, 20.
func cellGround(cells ...place) impl.Ground {
	var faces [][]impl.Spot2
	for _, c := range cells {
		x, y := 10*c[0], 10*c[1]
		faces = append(faces, spots(x, y, x+10, y, x+10, y+10, x, y+10))
	}
	return groundOf(faces...)
}

// band lays so many triangles side by side, each beside the one ahead.
func band(many int) impl.Ground {
	var g impl.Ground
	for i := range many + 2 {
		g.Points = append(g.Points, spot2(10*(i/2), 10*(i%2)))
	}
	for i := range many {
		if i%2 == 0 {
			g.Faces = append(g.Faces, []int{i, i + 2, i + 1})
		} else {
			g.Faces = append(g.Faces, []int{i, i + 1, i + 2})
		}
	}
	return g
}

// winding lays so many triangles round 0, 0, each an eighth of the round and a little further out, so
// that they go round more than once: point 0 is in the middle, face i has the points 0, i + 1, i + 2.
func winding(many int) impl.Ground {
	around := spots(1, 0, 1, 1, 0, 1, -1, 1, -1, 0, -1, -1, 0, -1, 1, -1)
	g := impl.Ground{Points: spots(0, 0)}
	for i := range many + 1 {
		far := 20 + i
		g.Points = append(g.Points, spot2(far*around[i%8].X, far*around[i%8].Y))
	}
	for i := range many {
		g.Faces = append(g.Faces, []int{0, i + 1, i + 2})
	}
	return g
}

// wayUp gives the numbers from one to another, rising or falling.
func wayUp(from int, to int) []int {
	if from > to {
		out := wayUp(to, from)
		slices.Reverse(out)
		return out
	}
	var out []int
	for i := from; i <= to; i++ {
		out = append(out, i)
	}
	return out
}

// bends is the ground of the document's own kind of test: three squares that go once round a corner.
func bends() impl.Ground { return cellGround(place{0, 0}, place{1, 0}, place{1, 1}) }

// snake is a row of squares that turns to the left twice, then to the right twice.
func snake() impl.Ground {
	return cellGround(place{0, 0}, place{1, 0}, place{2, 0}, place{2, 1}, place{2, 2}, place{1, 2},
		place{0, 2}, place{0, 3}, place{0, 4}, place{1, 4}, place{2, 4})
}

// gateway is a row of faces whose doors are narrow, low and high in turns.
func gateway() impl.Ground {
	return groundOf(
		spots(0, 0, 10, 0, 10, 2, 0, 2), spots(10, 0, 20, 8, 20, 10, 10, 2), spots(20, 8, 30, 0, 30, 2, 20, 10),
		spots(30, 0, 40, 8, 40, 10, 30, 2), spots(40, 8, 50, 8, 50, 10, 40, 10))
}

// overlaid has two triangles that lie over one another and have nothing in common by number.
func overlaid() impl.Ground {
	return groundOf(spots(0, 0, 10, 0, 0, 10), spots(1, 1, 11, 1, 1, 11), spots(20, 0, 30, 0, 20, 10))
}

// octagon has MaxCorners corners.
func octagon() []impl.Spot2 {
	return spots(2, 0, 4, 0, 6, 2, 6, 4, 4, 6, 2, 6, 0, 4, 0, 2)
}

// nonagon has one corner more, and would be good but for that.
func nonagon() []impl.Spot2 {
	return spots(20, 0, 40, 0, 60, 20, 60, 40, 40, 60, 20, 60, 0, 40, -5, 30, 0, 20)
}

// withPoints gives the ground that has so many points, the last ones of which no face uses.
func withPoints(g impl.Ground, many int) impl.Ground {
	out := impl.Ground{Points: slices.Clone(g.Points), Faces: g.Faces}
	for i := 0; len(out.Points) < many; i++ {
		out.Points = append(out.Points, spot2(900-i, -900))
	}
	return out
}

func goodGrounds() map[string]impl.Ground {
	const far = farGround
	return map[string]impl.Ground{
		"a triangle":        groundOf(spots(0, 0, 1, 0, 0, 1)),
		"a square":          cellGround(place{0, 0}),
		"a corner's turn":   bends(),
		"a snake":           snake(),
		"gates":             gateway(),
		"lain over":         overlaid(),
		"MaxCorners":        groundOf(octagon()),
		"MaxFaces":          band(mostFaces),
		"MaxPoints":         withPoints(bends(), mostPoints),
		"both":              withPoints(band(mostFaces), mostPoints),
		"winding":           winding(mostFaces),
		"just at the limit": groundOf(spots(-far, -far, far, -far, far, far, -far, far)),
		"least X and Y":     groundOf(spots(-far, -far, 0, -1, -1, 0)),
		"most X and Y":      groundOf(spots(far, far, 0, 1, 1, 0)),
		"nearly in line":    groundOf(spots(-far, -far, far, far-1, 0, 0)),
		"a point alone":     cellGround(place{0, 0}, place{1, 1}),
		"nothing beside":    cellGround(place{0, 0}, place{5, 5}),
		"one edge":          groundOf(spots(0, 0, 10, 0, 0, 10), spots(10, 0, 10, 10, 0, 10)),
		"the number 0 last": {Points: spots(0, 0, 1, 0, 0, 1), Faces: [][]int{{1, 2, 0}}},
	}
}

// faceless gives a ground of many points and one face of these numbers.
func faceless(face ...int) impl.Ground {
	return impl.Ground{Points: spots(0, 0, 10, 0, 10, 10, 0, 10, 5, 5, 20, 0, 5, -5), Faces: [][]int{face}}
}

// badGrounds holds grounds that are not good, in each way that the document names.
func badGrounds() map[string]impl.Ground {
	const far = farGround
	star := octagon()
	starred := func(step int, many int) impl.Ground {
		g := impl.Ground{Points: star[:many], Faces: [][]int{nil}}
		for i := range many {
			g.Faces[0] = append(g.Faces[0], i*step%many)
		}
		return g
	}
	out := map[string]impl.Ground{
		"nothing":                       {},
		"no point":                      {Faces: [][]int{{0, 1, 2}}},
		"no point, no corner":           {Faces: [][]int{{}}},
		"no face":                       {Points: spots(0, 0, 1, 0, 0, 1)},
		"one face too many":             band(mostFaces + 1),
		"one point too many":            withPoints(bends(), mostPoints+1),
		"far too many points":           withPoints(bends(), 300),
		"X below":                       withPoints(groundOf(spots(-far-1, 0, 1, 0, 0, 1)), 5),
		"X beyond":                      withPoints(groundOf(spots(far+1, 0, 0, 1, 0, 0)), 5),
		"Y below":                       withPoints(groundOf(spots(0, -far-1, 1, 0, 0, 1)), 5),
		"Y beyond":                      withPoints(groundOf(spots(0, far+1, 0, 0, 1, 0)), 5),
		"a face of no number":           faceless(),
		"a face of 1 number":            faceless(0),
		"a face of 2 numbers":           faceless(0, 1),
		"a face of 2 numbers, there":    {Points: spots(0, 0, 10, 0, 0, 10), Faces: [][]int{{0, 1, 2}, {2, 1}}},
		"a number below 0":              faceless(-1, 0, 1),
		"a number below 0, last":        faceless(0, 1, -1),
		"a number of all points":        faceless(0, 1, 7),
		"a number beyond":               faceless(0, 1, 8),
		"a number far below":            faceless(0, 1, math.MinInt),
		"a number far beyond":           faceless(0, math.MaxInt, 2),
		"a number twice, side by side":  faceless(0, 1, 1, 2),
		"a number twice, over the end":  faceless(0, 1, 2, 0),
		"a number twice, apart":         faceless(0, 1, 2, 0, 3),
		"all twice":                     faceless(0, 1, 2, 0, 1, 2),
		"three in one line":             faceless(0, 1, 5),
		"the second in one line":        faceless(0, 1, 5, 2),
		"the last in one line":          faceless(4, 0, 1, 2),
		"the middle of a way back":      faceless(0, 5, 1),
		"a corner on a line":            {Points: spots(0, 0, 10, 0, 10, 10, 0, 10, 10, 5), Faces: [][]int{{0, 1, 4, 2, 3}}},
		"turns to the right":            faceless(0, 1, 4, 2, 3),
		"turns to the right, first":     faceless(4, 2, 3, 0, 1),
		"turns to the right, last":      faceless(2, 3, 0, 1, 4),
		"the wrong way":                 faceless(0, 3, 2, 1),
		"three the wrong way":           faceless(0, 2, 1),
		"over itself":                   faceless(0, 1, 3, 2),
		"a star of 5":                   starred(2, 5),
		"a star of 7":                   starred(2, 7),
		"a star of 7, thrice round":     starred(3, 7),
		"a star of 8, thrice round":     starred(3, 8),
		"a star the wrong way":          starred(3, 5),
		"a ring within a ring":          {Points: spots(0, 0, 20, 0, 20, 20, 1, 20, 5, 5, 15, 6, 10, 15), Faces: [][]int{{0, 1, 2, 3, 4, 5, 6}}},
		"the same face twice":           {Points: spots(0, 0, 1, 0, 0, 1), Faces: [][]int{{0, 1, 2}, {0, 1, 2}}},
		"the same face twice, turned":   {Points: spots(0, 0, 1, 0, 0, 1), Faces: [][]int{{0, 1, 2}, {2, 0, 1}}},
		"one edge in the same way":      groundOf(spots(0, 0, 10, 0, 0, 10), spots(0, 0, 10, 0, 5, 5)),
		"the last edge in the same way": groundOf(spots(10, 0, 0, 10, 0, 0), spots(10, 0, 5, 5, 0, 0)),
		"the last face in the same way": withFace(band(mostFaces-1), spots(0, 0, 10, 0, 9, 9)),
		"two edges, both ways":          {Points: spots(0, 0, 10, 0, 10, 10, 0, 10), Faces: [][]int{{0, 1, 2}, {2, 1, 0}}},
		"two edges, the other hollow":   {Points: spots(0, 0, 10, 0, 10, 10, 20, -10), Faces: [][]int{{0, 1, 2}, {2, 1, 0, 3}}},
		"two edges apart":               {Points: spots(0, 0, 10, 0, 10, 10, 0, 10), Faces: [][]int{{0, 1, 2, 3}, {1, 0, 3, 2}}},
		"the other face is bad":         {Points: spots(0, 0, 10, 0, 10, 10, 0, 10), Faces: [][]int{{0, 1, 2}, {0, 3, 2}}},
	}
	for _, p := range []impl.Spot2{{X: 9, Y: -900}, {X: math.MaxInt}, {X: math.MinInt}, {Y: math.MaxInt}, {Y: math.MinInt}, {X: far + 1}, {Y: -far - 1}} {
		g := bends()
		g.Points = append(g.Points, spot2(9, -900), p)
		out[fmt.Sprint("the unused point ", p)] = g
	}
	out["one corner too many"] = groundOf(nonagon())
	return out
}

// hullOf gives the outmost of places, going round to the left, none of them in one line.
func hullOf(all []impl.Spot2) []impl.Spot2 {
	sorted := slices.Clone(all)
	slices.SortFunc(sorted, func(a impl.Spot2, b impl.Spot2) int {
		return slices.Compare([]int{a.X, a.Y}, []int{b.X, b.Y})
	})
	sorted = slices.Compact(sorted)
	half := func() []impl.Spot2 {
		var out []impl.Spot2
		for _, p := range sorted {
			for len(out) > 1 && crossed(minus(out[len(out)-1], out[len(out)-2]), minus(p, out[len(out)-1])) <= 0 {
				out = out[:len(out)-1]
			}
			out = append(out, p)
		}
		return out[:len(out)-1]
	}
	if len(sorted) < 2 {
		return sorted
	}
	low := half()
	slices.Reverse(sorted)
	return append(low, half()...)
}

func minus(a impl.Spot2, b impl.Spot2) impl.Spot2 { return spot2(a.X-b.X, a.Y-b.Y) }

func crossed(a impl.Spot2, b impl.Spot2) int { return a.X*b.Y - a.Y*b.X }

func along(a impl.Spot2, b impl.Spot2) int { return a.X*b.X + a.Y*b.Y }

func slowOnGround(p impl.Spot2) bool {
	return p.X >= -1000 && p.X <= 1000 && p.Y >= -1000 && p.Y <= 1000
}

// cornersOf gives the places of a face's corners.
func cornersOf(g impl.Ground, face int) []impl.Spot2 {
	var out []impl.Spot2
	for _, number := range g.Faces[face] {
		out = append(out, g.Points[number])
	}
	return out
}

// sidesOf gives the edges of a face.
func sidesOf(face []int) []place {
	var out []place
	for i := range face {
		out = append(out, place{face[i], append(face[i+1:len(face):len(face)], face...)[0]})
	}
	return out
}

// slowGoodGround asks each face to be the hull of its own corners.
func slowGoodGround(g impl.Ground) bool {
	if len(g.Points) > 40 || len(g.Faces) == 0 || len(g.Faces) > 20 {
		return false
	}
	seen := map[impl.Spot2]int{}
	for _, p := range g.Points {
		if seen[p]++; seen[p] > 1 || !slowOnGround(p) {
			return false
		}
	}
	gone := map[place]int{}
	for i, face := range g.Faces {
		if len(face) < 3 || len(face) > 8 || slices.Min(face) < 0 || slices.Max(face) >= len(g.Points) {
			return false
		}
		corners := cornersOf(g, i)
		hull := hullOf(corners)
		at := slices.Index(hull, corners[0])
		if at < 0 || !slices.Equal(append(hull[at:len(hull):len(hull)], hull[:at]...), corners) {
			return false
		}
		for _, side := range sidesOf(face) {
			if gone[side]++; gone[side] > 1 {
				return false
			}
		}
	}
	return true
}

// slowInFace cuts a good face into triangles at the place: together they are the face, or more.
func slowInFace(g impl.Ground, face int, p impl.Spot2) bool {
	if !slowOnGround(p) {
		return false
	}
	corners := cornersOf(g, face)
	whole, cut := 0, 0
	for i, a := range corners {
		b := corners[(i+1)%len(corners)]
		whole += crossed(a, b)
		cut += max(crossed(minus(a, p), minus(b, p)), crossed(minus(b, p), minus(a, p)))
	}
	return whole == cut
}

func slowFaceAt(g impl.Ground, p impl.Spot2) int {
	if slowGoodGround(g) {
		for i := range g.Faces {
			if slowInFace(g, i, p) {
				return i
			}
		}
	}
	return -1
}

// ownersOf gives the face that goes along each edge.
func ownersOf(g impl.Ground) map[place]int {
	out := map[place]int{}
	for i, face := range g.Faces {
		for _, side := range sidesOf(face) {
			out[side] = i
		}
	}
	return out
}

func slowBeside(g impl.Ground, face int) ([]int, bool) {
	if !slowGoodGround(g) || face < 0 || face >= len(g.Faces) {
		return nil, false
	}
	owners := ownersOf(g)
	var out []int
	for _, side := range sidesOf(g.Faces[face]) {
		if other, there := owners[place{side[1], side[0]}]; there {
			out = append(out, other)
		}
	}
	slices.Sort(out)
	return slices.Compact(out), true
}

// slowFewest keeps to each face the first of the ways of just so many faces that lead from it to the end.
func slowFewest(g impl.Ground, from int, to int) ([]int, bool) {
	if !slowGoodGround(g) || from < 0 || from >= len(g.Faces) || to < 0 || to >= len(g.Faces) {
		return nil, false
	}
	var beside [][]int
	for face := range g.Faces {
		others, _ := slowBeside(g, face)
		beside = append(beside, others)
	}
	ways := map[int][]int{to: {to}}
	for range g.Faces {
		if way, there := ways[from]; there {
			return way, true
		}
		longer := map[int][]int{}
		for face := range g.Faces {
			for _, next := range beside[face] {
				if way, there := ways[next]; there {
					way = append([]int{face}, way...)
					if first, known := longer[face]; !known || slices.Compare(way, first) < 0 {
						longer[face] = way
					}
				}
			}
		}
		ways = longer
	}
	return nil, false
}

func slowDoors(g impl.Ground, faces []int) ([][]int, bool) {
	if !slowGoodGround(g) || len(faces) == 0 || len(faces) > 20 {
		return nil, false
	}
	owners := ownersOf(g)
	times := map[int]int{}
	var out [][]int
	for i, face := range faces {
		if times[face]++; times[face] > 1 || face < 0 || face >= len(g.Faces) {
			return nil, false
		}
		if i == 0 {
			continue
		}
		sides := slices.DeleteFunc(sidesOf(g.Faces[faces[i-1]]), func(side place) bool {
			owner, there := owners[place{side[1], side[0]}]
			return !there || owner != face
		})
		if len(sides) == 0 {
			return nil, false
		}
		out = append(out, []int{sides[0][0], sides[0][1]})
	}
	return out, true
}

// ratio is a whole number over one above 0.
type ratio struct {
	num int
	den int
}

func ratioOf(num int, den int) ratio {
	if den < 0 {
		return ratio{-num, -den}
	}
	return ratio{num, den}
}

func (r ratio) below(s ratio) bool { return r.num*s.den < s.num*r.den }

// metFrom gives the least and the greatest part of the way from u to v at which it is on the door.
func metFrom(u impl.Spot2, v impl.Spot2, door [2]impl.Spot2) (ratio, ratio, bool) {
	way, side, off := minus(v, u), minus(door[1], door[0]), minus(door[0], u)
	nought, whole := ratio{0, 1}, ratio{1, 1}
	if across := crossed(way, side); across != 0 {
		at, part := ratioOf(crossed(off, side), across), ratioOf(crossed(off, way), across)
		met := !at.below(nought) && !whole.below(at) && !part.below(nought) && !whole.below(part)
		return at, at, met
	}
	if crossed(off, way) != 0 || crossed(off, side) != 0 {
		return nought, nought, false
	}
	if way == spot2(0, 0) {
		return nought, whole, along(off, minus(door[1], u)) <= 0
	}
	length := along(way, way)
	one, other := along(off, way), along(minus(door[1], u), way)
	least, most := max(0, min(one, other)), min(length, max(one, other))
	return ratio{least, length}, ratio{most, length}, least <= most
}

// meetsInOrder tells whether a line is on each door, one behind the other: on each as early as may be.
func meetsInOrder(line []impl.Spot2, doors [][2]impl.Spot2) bool {
	if len(line) == 1 {
		line = append(line[:1:1], line[0])
	}
	piece, done := 0, ratio{0, 1}
	for _, door := range doors {
		for {
			least, most, met := metFrom(line[piece], line[piece+1], door)
			if met && !most.below(done) {
				if done.below(least) {
					done = least
				}
				break
			}
			piece, done = piece+1, ratio{0, 1}
			if piece+1 == len(line) {
				return false
			}
		}
	}
	return true
}

// headingOf gives the direction from a to b in its least whole numbers.
func headingOf(a impl.Spot2, b impl.Spot2) impl.Spot2 {
	way := minus(b, a)
	most := max(way.X, -way.X, way.Y, -way.Y)
	for by := most; by > 1; by-- {
		if way.X%by == 0 && way.Y%by == 0 {
			return spot2(way.X/by, way.Y/by)
		}
	}
	return way
}

// turnsOnly gives a line without the places at which it stands still or goes straight on.
func turnsOnly(line []impl.Spot2) []impl.Spot2 {
	line = slices.Compact(slices.Clone(line))
	var out []impl.Spot2
	for i, p := range line {
		if i == 0 || i == len(line)-1 || headingOf(line[i-1], p) != headingOf(p, line[i+1]) {
			out = append(out, p)
		}
	}
	return out
}

func lengthOf(line []impl.Spot2) float64 {
	sum := 0.0
	for i := 1; i < len(line); i++ {
		way := minus(line[i], line[i-1])
		sum += math.Hypot(float64(way.X), float64(way.Y))
	}
	return sum
}

// doorPlaces gives the places of the doors of a way.
func doorPlaces(g impl.Ground, faces []int) [][2]impl.Spot2 {
	doors, _ := slowDoors(g, faces)
	var out [][2]impl.Spot2
	for _, door := range doors {
		out = append(out, [2]impl.Spot2{g.Points[door[0]], g.Points[door[1]]})
	}
	return out
}

// slowPull takes the shortest of all lines that go straight from ends of doors to ends of doors
// behind them.
func slowPull(g impl.Ground, faces []int, from impl.Spot2, to impl.Spot2) ([]impl.Spot2, bool) {
	if _, good := slowDoors(g, faces); !good || !slowInFace(g, faces[0], from) || !slowInFace(g, faces[len(faces)-1], to) {
		return nil, false
	}
	doors := doorPlaces(g, faces)
	// The lines to each end of each door; ahead of the doors stands from, behind them to.
	lines := [][][]impl.Spot2{{{from}}}
	ends := append(slices.Clone(doors), [2]impl.Spot2{to, to})
	for number, two := range ends {
		var shortest [][]impl.Spot2
		for _, end := range two {
			var best []impl.Spot2
			for ahead := range lines {
				for _, line := range lines[ahead] {
					straight := []impl.Spot2{line[len(line)-1], end}
					if !meetsInOrder(straight, doors[ahead:number]) {
						continue
					}
					if longer := append(slices.Clone(line), end); best == nil || lengthOf(longer) < lengthOf(best) {
						best = longer
					}
				}
			}
			shortest = append(shortest, best)
		}
		lines = append(lines, shortest)
	}
	return turnsOnly(lines[len(lines)-1][0]), true
}

// holdsPromise8 asks of a line what the document promises of it, without asking for the shortest one.
func holdsPromise8(t *testing.T, what string, line []impl.Spot2, doors [][2]impl.Spot2, from impl.Spot2, to impl.Spot2) {
	t.Helper()
	if len(line) == 0 || line[0] != from || line[len(line)-1] != to {
		t.Fatalf("%s: the line %v does not lead from %v to %v", what, line, from, to)
	}
	if !meetsInOrder(line, doors) {
		t.Fatalf("%s: the line %v does not meet the doors %v in order", what, line, doors)
	}
	for i, p := range line {
		if i == 0 || i == len(line)-1 {
			continue
		}
		if !slices.ContainsFunc(doors, func(door [2]impl.Spot2) bool { return door[0] == p || door[1] == p }) {
			t.Fatalf("%s: the line %v turns at %v, at no end of the doors %v", what, line, p, doors)
		}
	}
	if !alike(line, turnsOnly(line)) {
		t.Fatalf("%s: the line %v has places where it does not turn", what, line)
	}
}

// pulled asks PullTight, holds its answer against the slow one and against promise 8, and gives it.
func pulled(t *testing.T, what string, g impl.Ground, faces []int, from impl.Spot2, to impl.Spot2) []impl.Spot2 {
	t.Helper()
	got, ok := impl.PullTight(g, faces, from, to)
	want, good := slowPull(g, faces, from, to)
	if ok != good || !alike(got, want) {
		t.Fatalf("%s: PullTight %v %v %v %v = %v %v, not %v %v", what, g, faces, from, to, got, ok, want, good)
	}
	if ok {
		holdsPromise8(t, what, got, doorPlaces(g, faces), from, to)
	}
	return got
}

func wantFaceAt(t *testing.T, what string, g impl.Ground, x int, y int, want int) {
	t.Helper()
	if got := purely(t, what, impl.FaceAt, g, x, y); got[0] != want {
		t.Errorf("%s: FaceAt %v %d %d = %v, not %d", what, g, x, y, got, want)
	}
}

func wantBeside(t *testing.T, what string, g impl.Ground, face int, want []int, good bool) {
	t.Helper()
	if got := purely(t, what, impl.Beside, g, face); !alike(got[0], want) || got[1] != good {
		t.Errorf("%s: Beside %v %d = %v, not %v %v", what, g, face, got, want, good)
	}
}

func wantFewest(t *testing.T, what string, g impl.Ground, from int, to int, want []int, good bool) {
	t.Helper()
	if got := purely(t, what, impl.FewestFaces, g, from, to); !alike(got[0], want) || got[1] != good {
		t.Errorf("%s: FewestFaces %v %d %d = %v, not %v %v", what, g, from, to, got, want, good)
	}
}

func wantDoors(t *testing.T, what string, g impl.Ground, faces []int, want [][]int, good bool) {
	t.Helper()
	if got := purely(t, what, impl.DoorsOf, g, faces); !alike(got[0], want) || got[1] != good {
		t.Errorf("%s: DoorsOf %v %v = %v, not %v %v", what, g, faces, got, want, good)
	}
}

func wantPull(t *testing.T, what string, g impl.Ground, faces []int, from impl.Spot2, to impl.Spot2, want []impl.Spot2, good bool) {
	t.Helper()
	if got := purely(t, what, impl.PullTight, g, faces, from, to); !alike(got[0], want) || got[1] != good {
		t.Errorf("%s: PullTight %v %v %v %v = %v, not %v %v", what, g, faces, from, to, got, want, good)
	}
}

func TestConstantsOfWays(t *testing.T) {
	if impl.MaxPoints != mostPoints || impl.MaxFaces != mostFaces || impl.MaxCorners != mostCorners || impl.MaxGround != farGround {
		t.Error(impl.MaxPoints, impl.MaxFaces, impl.MaxCorners, impl.MaxGround)
	}
}

func TestGoodGround(t *testing.T) {
	for what, g := range goodGrounds() {
		if got := purely(t, what, impl.GoodGround, g); got[0] != true || !slowGoodGround(g) {
			t.Error(what, "was refused:", g)
		}
	}
	for what, g := range badGrounds() {
		if got := purely(t, what, impl.GoodGround, g); got[0] != false || slowGoodGround(g) {
			t.Error(what, "was taken:", g)
		}
	}
}

// Any of the nine corners may go, and the face is good: that they are nine is all that is wrong.
func TestGoodGroundOneCornerTooMany(t *testing.T) {
	nine := nonagon()
	if len(hullOf(nine)) != mostCorners+1 {
		t.Fatal("not nine corners:", nine)
	}
	for i := range nine {
		if g := groundOf(slices.Delete(slices.Clone(nine), i, i+1)); !impl.GoodGround(g) {
			t.Error("refused:", g)
		}
	}
}

// Corners of which each turns to the left, also over the end: what refuses them is another corner
// that lies on the right of an edge, and that alone.
func TestGoodGroundEachCornerTurnsLeft(t *testing.T) {
	for _, what := range []string{"a star of 5", "a star of 7", "a star of 7, thrice round", "a star of 8, thrice round", "a ring within a ring"} {
		g := badGrounds()[what]
		corners := cornersOf(g, 0)
		for i, a := range corners {
			b, c := corners[(i+1)%len(corners)], corners[(i+2)%len(corners)]
			if crossed(minus(b, a), minus(c, b)) <= 0 {
				t.Error(what, "turns to the right at", b)
			}
		}
		if impl.GoodGround(g) {
			t.Error(what, "was taken")
		}
	}
}

// Every face of at most five numbers of few points, the numbers just beside them with it.
func TestGoodGroundFaceByFace(t *testing.T) {
	for _, points := range [][]impl.Spot2{spots(0, 0, 4, 0, 2, 0, 4, 4, 0, 4, 2, 3), spots(0, 0, 3, 1, 4, 4, 1, 3, 2, 2), octagon()[1:6]} {
		many := [2]int{}
		look := func(face []int) {
			g := impl.Ground{Points: points, Faces: [][]int{face}}
			good := slowGoodGround(g)
			if impl.GoodGround(g) != good {
				t.Fatalf("GoodGround %v is not %v", g, good)
			}
			if good {
				many[1]++
			} else {
				many[0]++
			}
		}
		var grow func(face []int)
		grow = func(face []int) {
			look(face)
			for number := -1; len(face) < 5 && number <= len(points); number++ {
				grow(append(slices.Clone(face), number))
			}
		}
		grow(nil)
		if many[0] < 1000 || many[1] < 12 {
			t.Error("bad and good:", many)
		}
	}
}

// convexFaces gives all good faces of some points, each once, beginning with its least number.
func convexFaces(points []impl.Spot2) [][]int {
	var out [][]int
	var grow func(face []int)
	grow = func(face []int) {
		if len(face) > 2 && slowGoodGround(impl.Ground{Points: points, Faces: [][]int{face}}) {
			out = append(out, face)
		}
		for number := range points {
			if len(face) == 0 || number > face[0] && !slices.Contains(face, number) && len(face) < 6 {
				grow(append(slices.Clone(face), number))
			}
		}
	}
	grow(nil)
	return out
}

// Two good faces have at most one door between them: each has all its other corners on its own side
// of it. So a ground whose faces would have two in common is never good.
func TestNoTwoDoorsBetweenTwoFaces(t *testing.T) {
	points := spots(0, 0, 1, 0, 2, 0, 0, 1, 1, 1, 2, 1, 0, 2, 1, 2)
	faces := convexFaces(points)
	many := map[int]int{}
	for _, one := range faces {
		for _, other := range faces {
			g := impl.Ground{Points: points, Faces: [][]int{one, other}}
			common, same := 0, false
			for _, side := range sidesOf(one) {
				if slices.Contains(sidesOf(other), place{side[1], side[0]}) {
					common++
				}
				same = same || slices.Contains(sidesOf(other), side)
			}
			if impl.GoodGround(g) == same {
				t.Fatalf("GoodGround %v is %v", g, same)
			}
			if common > 1 {
				t.Fatalf("%v has %d edges in common both ways", g, common)
			}
			many[common]++
			doors, ok := impl.DoorsOf(g, []int{0, 1})
			if ok != (common == 1 && !same) || len(doors) != map[bool]int{true: 1}[ok] {
				t.Fatalf("DoorsOf %v = %v %v", g, doors, ok)
			}
		}
	}
	if many[0] < 1000 || many[1] < 300 {
		t.Error("edges in common:", many)
	}
}

func TestFaceAtTold(t *testing.T) {
	const far = farGround
	square := cellGround(place{0, 0}, place{1, 0}, place{1, 1})
	whole := goodGrounds()["just at the limit"]
	for _, c := range []struct {
		what string
		g    impl.Ground
		x, y int
		want int
	}{
		{"within", square, 5, 5, 0},
		{"within the second", square, 15, 5, 1},
		{"within the third", square, 15, 15, 2},
		{"on an edge of one", square, 5, 0, 0},
		{"on an edge of the last", square, 20, 15, 2},
		{"on an edge of two", square, 10, 5, 0},
		{"on another edge of two", square, 15, 10, 1},
		{"on a corner of one", square, 0, 0, 0},
		{"on a corner of two", square, 10, 0, 0},
		{"on a corner of three", square, 10, 10, 0},
		{"on a corner of the last two", square, 20, 10, 1},
		{"on a corner of the last", square, 20, 20, 2},
		{"in none, left", square, -1, 5, -1},
		{"in none, above", square, 5, 11, -1},
		{"in none, beside the last", square, 9, 15, -1},
		{"in none, in line with an edge", square, 21, 0, -1},
		{"in none, in line with two edges", square, 0, 20, -1},
		{"in the first of two", overlaid(), 2, 2, 0},
		{"on an edge of the second", overlaid(), 1, 1, 0},
		{"in the second alone", overlaid(), 6, 5, 1},
		{"on the first one's edge, in both", overlaid(), 5, 5, 0},
		{"in the third", overlaid(), 21, 1, 2},
		{"between the second and the third", overlaid(), 12, 1, -1},
		{"the least", whole, -far, -far, 0},
		{"the most", whole, far, far, 0},
		{"least and most", whole, -far, far, 0},
		{"most and least", whole, far, -far, 0},
		{"X below", whole, -far - 1, 0, -1},
		{"X beyond", whole, far + 1, 0, -1},
		{"Y below", whole, 0, -far - 1, -1},
		{"Y beyond", whole, 0, far + 1, -1},
		{"X far below", whole, math.MinInt, 0, -1},
		{"X far beyond", whole, math.MaxInt, 0, -1},
		{"Y far below", whole, 0, math.MinInt, -1},
		{"Y far beyond", whole, 0, math.MaxInt, -1},
		{"both far", whole, math.MinInt, math.MinInt, -1},
		{"both far beyond", whole, math.MaxInt, math.MaxInt, -1},
		{"far by the round of an int", whole, 1 << 32, 1 << 32, -1},
	} {
		wantFaceAt(t, c.what, c.g, c.x, c.y, c.want)
	}
	for what, g := range badGrounds() {
		wantFaceAt(t, what, g, 1, 1, -1)
		wantFaceAt(t, what, g, farGround+1, 1, -1)
	}
}

// Every place of a small stretch, of each ground.
func TestFaceAtPlaceByPlace(t *testing.T) {
	for what, g := range goodGrounds() {
		for x := -3; x < 34; x++ {
			for y := -3; y < 24; y++ {
				if got, want := impl.FaceAt(g, x, y), slowFaceAt(g, spot2(x, y)); got != want {
					t.Fatalf("%s: FaceAt %d %d = %d, not %d", what, x, y, got, want)
				}
			}
		}
	}
}

func TestBesideTold(t *testing.T) {
	square := cellGround(place{0, 0}, place{1, 0}, place{1, 1}, place{0, 1})
	wantBeside(t, "a square's first", square, 0, []int{1, 3}, true)
	wantBeside(t, "a square's second", square, 1, []int{0, 2}, true)
	wantBeside(t, "a square's third", square, 2, []int{1, 3}, true)
	cross := cellGround(place{2, 1}, place{1, 2}, place{1, 1}, place{0, 1}, place{1, 0})
	wantBeside(t, "a cross, its middle", cross, 2, []int{0, 1, 3, 4}, true)
	wantBeside(t, "a cross, an arm", cross, 4, []int{2}, true)
	wantBeside(t, "a point alone in common", cellGround(place{0, 0}, place{1, 1}), 0, nil, true)
	wantBeside(t, "nothing in common", cellGround(place{0, 0}, place{5, 5}), 1, nil, true)
	wantBeside(t, "the only face", cellGround(place{0, 0}), 0, nil, true)
	wantBeside(t, "lain over, no edge in common", overlaid(), 0, nil, true)
	wantBeside(t, "a part of an edge in common", groundOf(spots(0, 0, 10, 0, 10, 10, 0, 10), spots(10, 2, 20, 2, 10, 8)), 0, nil, true)
	wantBeside(t, "a band's first", band(mostFaces), 0, []int{1}, true)
	wantBeside(t, "a band's last", band(mostFaces), mostFaces-1, []int{mostFaces - 2}, true)
	wantBeside(t, "a band's middle", band(mostFaces), 9, []int{8, 10}, true)
	wantBeside(t, "winding, over itself", winding(mostFaces), 8, []int{7, 9}, true)
	for _, face := range []int{-1, 4, 5, math.MinInt, math.MaxInt} {
		wantBeside(t, "no face", square, face, nil, false)
	}
	for what, g := range badGrounds() {
		wantBeside(t, what, g, 0, nil, false)
	}
}

// block is a square of nine squares, numbered as they are told.
func block(numbers ...int) impl.Ground {
	cells := make([]place, len(numbers))
	for i, number := range numbers {
		cells[number] = place{i % 3, i / 3}
	}
	return cellGround(cells...)
}

func TestFewestFacesTold(t *testing.T) {
	rising := block(0, 1, 2, 3, 4, 5, 6, 7, 8)
	wantFewest(t, "many ways, the first one", rising, 0, 8, []int{0, 1, 2, 5, 8}, true)
	wantFewest(t, "many ways back", rising, 8, 0, []int{8, 5, 2, 1, 0}, true)
	wantFewest(t, "two ways", rising, 0, 4, []int{0, 1, 4}, true)
	wantFewest(t, "two ways back", rising, 4, 0, []int{4, 1, 0}, true)
	wantFewest(t, "straight", rising, 3, 5, []int{3, 4, 5}, true)
	wantFewest(t, "side by side", rising, 3, 4, []int{3, 4}, true)
	mixed := block(8, 2, 5, 1, 7, 3, 4, 0, 6)
	wantFewest(t, "the first one is not the first one on the ground", mixed, 8, 6, []int{8, 1, 4, 0, 6}, true)
	wantFewest(t, "the first one, from behind", mixed, 6, 8, []int{6, 0, 4, 1, 8}, true)
	wantFewest(t, "the first one, then the other", mixed, 5, 4, []int{5, 2, 7, 0, 4}, true)
	wantFewest(t, "fewer faces go ahead of lesser ones", block(4, 8, 5, 0, 7, 6, 1, 2, 3), 4, 5, []int{4, 8, 5}, true)
	for face := range 9 {
		wantFewest(t, "to itself", mixed, face, face, []int{face}, true)
	}
	wantFewest(t, "the only one", cellGround(place{0, 0}), 0, 0, []int{0}, true)
	wantFewest(t, "MaxFaces", band(mostFaces), 0, mostFaces-1, wayUp(0, mostFaces-1), true)
	wantFewest(t, "MaxFaces back", band(mostFaces), mostFaces-1, 0, wayUp(mostFaces-1, 0), true)
	wantFewest(t, "a snake", snake(), 0, 10, wayUp(0, 10), true)
	wantFewest(t, "no way, a point alone", cellGround(place{0, 0}, place{1, 1}), 0, 1, nil, false)
	wantFewest(t, "no way, lain over", overlaid(), 0, 1, nil, false)
	apart := cellGround(place{0, 0}, place{1, 0}, place{5, 0}, place{6, 0})
	wantFewest(t, "no way", apart, 0, 3, nil, false)
	wantFewest(t, "no way back", apart, 2, 1, nil, false)
	wantFewest(t, "a way behind", apart, 3, 2, []int{3, 2}, true)
	for _, face := range []int{-1, 9, 10, math.MinInt, math.MaxInt} {
		wantFewest(t, "from no face", rising, face, 0, nil, false)
		wantFewest(t, "to no face", rising, 0, face, nil, false)
		wantFewest(t, "from no face to itself", rising, face, face, nil, false)
	}
	for what, g := range badGrounds() {
		wantFewest(t, what, g, 0, 0, nil, false)
	}
}

func TestDoorsOfTold(t *testing.T) {
	// the points: 0 at 0, 0; 1 at 10, 0; 2 at 10, 10; 3 at 0, 10; 4 at 20, 0; 5 at 20, 10; 6 at 20, 20; 7 at 10, 20
	g := bends()
	wantDoors(t, "from the face that is left", g, []int{0, 1, 2}, [][]int{{1, 2}, {5, 2}}, true)
	wantDoors(t, "and back", g, []int{2, 1, 0}, [][]int{{2, 5}, {2, 1}}, true)
	wantDoors(t, "a part", g, []int{1, 2}, [][]int{{5, 2}}, true)
	for face := range 3 {
		wantDoors(t, "one face", g, []int{face}, nil, true)
	}
	turnedFaces := impl.Ground{Points: g.Points, Faces: [][]int{{3, 0, 1, 2}, {2, 1, 4, 5}, {7, 2, 5, 6}}}
	wantDoors(t, "other corners first", turnedFaces, []int{0, 1, 2}, [][]int{{1, 2}, {5, 2}}, true)
	overEnd := impl.Ground{Points: g.Points, Faces: [][]int{{2, 3, 0, 1}, {1, 4, 5, 2}, {2, 5, 6, 7}}}
	wantDoors(t, "over the end of the corners", overEnd, []int{0, 1}, [][]int{{1, 2}}, true)
	wantDoors(t, "a way that is not the fewest", block(0, 1, 2, 3, 4, 5, 6, 7, 8), []int{1, 0, 3, 4}, [][]int{{2, 1}, {2, 3}, {2, 8}}, true)
	var doors [][]int
	for i := range mostFaces - 1 {
		if i%2 == 0 {
			doors = append(doors, []int{i + 2, i + 1})
		} else {
			doors = append(doors, []int{i + 1, i + 2})
		}
	}
	wantDoors(t, "MaxFaces", band(mostFaces), wayUp(0, mostFaces-1), doors, true)
	wantDoors(t, "no face at all", g, nil, nil, false)
	wantDoors(t, "one face more than MaxFaces", band(mostFaces), append(wayUp(0, mostFaces-1), mostFaces-2), nil, false)
	wantDoors(t, "far too many", band(mostFaces), slices.Repeat([]int{0, 1}, 400), nil, false)
	wantDoors(t, "a number twice", g, []int{0, 0}, nil, false)
	wantDoors(t, "there and back", g, []int{0, 1, 0}, nil, false)
	wantDoors(t, "there and back at the end", g, []int{0, 1, 2, 1}, nil, false)
	wantDoors(t, "round and round", cellGround(place{0, 0}, place{1, 0}, place{1, 1}, place{0, 1}), []int{0, 1, 2, 3, 0}, nil, false)
	wantDoors(t, "not beside one another", g, []int{0, 2}, nil, false)
	wantDoors(t, "not beside one another, last", g, []int{1, 0, 2}, nil, false)
	wantDoors(t, "not beside one another, first", g, []int{0, 2, 1}, nil, false)
	wantDoors(t, "a point alone in common", cellGround(place{0, 0}, place{1, 1}), []int{0, 1}, nil, false)
	for _, face := range []int{-1, 3, 4, math.MinInt, math.MaxInt} {
		wantDoors(t, "no face", g, []int{face}, nil, false)
		wantDoors(t, "no face first", g, []int{face, 0}, nil, false)
		wantDoors(t, "no face last", g, []int{1, face}, nil, false)
	}
	for what, g := range badGrounds() {
		wantDoors(t, what, g, []int{0}, nil, false)
	}
}

// tightLine is a line over a way of faces.
type tightLine struct {
	what  string
	g     impl.Ground
	faces []int
	line  []impl.Spot2
}

// tightLines holds lines that are pulled tight, told from their beginnings to their ends.
func tightLines() []tightLine {
	row, ring := cellGround(place{0, 0}, place{1, 0}, place{2, 0}), winding(mostFaces)
	around := cellGround(place{0, 0}, place{1, 0}, place{2, 0}, place{2, 1}, place{2, 2}, place{1, 2}, place{0, 2}, place{0, 1})
	return []tightLine{
		{"one face", row, []int{0}, spots(1, 2, 9, 8)},
		{"one face, nowhere", row, []int{0}, spots(1, 2)},
		{"one face, corner to corner", row, []int{1}, spots(10, 0, 20, 10)},
		{"straight", row, []int{0, 1, 2}, spots(1, 2, 29, 8)},
		{"straight along the edges", row, []int{0, 1, 2}, spots(0, 10, 30, 10)},
		{"straight along the other edges, back", row, []int{2, 1, 0}, spots(30, 0, 0, 0)},
		{"from a door", row, []int{0, 1}, spots(10, 5, 15, 6)},
		{"to a door", row, []int{0, 1}, spots(5, 5, 10, 6)},
		{"nowhere, on a door", row, []int{0, 1}, spots(10, 5)},
		{"nowhere, at a door's end", row, []int{1, 0}, spots(10, 10)},
		{"nowhere, through two doors", bends(), []int{0, 1, 2}, spots(10, 10)},
		{"from door to door", row, []int{0, 1, 2}, spots(10, 1, 20, 9)},
		{"from a door's end to a door's end", row, []int{0, 1, 2}, spots(10, 0, 20, 10)},
		{"along a door alone", row, []int{0, 1}, spots(10, 2, 10, 9)},
		{"along a door, back", row, []int{1, 0}, spots(10, 10, 10, 0)},
		{"round a corner", bends(), []int{0, 1, 2}, spots(1, 8, 10, 10, 11, 18)},
		{"round a corner, back", bends(), []int{2, 1, 0}, spots(11, 18, 10, 10, 1, 8)},
		{"through a door's end without a turn", bends(), []int{0, 1, 2}, spots(5, 5, 15, 15)},
		{"through a door's end without a turn, back", bends(), []int{2, 1, 0}, spots(15, 15, 5, 5)},
		{"past a door's end", bends(), []int{0, 1, 2}, spots(5, 4, 15, 15)},
		{"along a door and on", bends(), []int{0, 1, 2}, spots(0, 10, 20, 10)},
		{"along a door first", bends(), []int{0, 1, 2}, spots(10, 0, 10, 20)},
		{"from the corner", bends(), []int{0, 1, 2}, spots(10, 10, 11, 18)},
		{"to the corner", bends(), []int{0, 1, 2}, spots(1, 8, 10, 10)},
		{"along the edge, then a turn", bends(), []int{0, 1, 2}, spots(0, 10, 10, 10, 10, 20)},
		{"to the left, then to the right", snake(), wayUp(0, 10), spots(5, 5, 20, 10, 20, 20, 10, 30, 10, 40, 25, 45)},
		{"to the right, then to the left", snake(), wayUp(10, 0), spots(25, 45, 10, 40, 10, 30, 20, 20, 20, 10, 5, 5)},
		{"straight through two ends", snake(), wayUp(1, 6), spots(20, 0, 20, 20, 0, 25)},
		{"left and right in turns", gateway(), wayUp(0, 4), spots(0, 1, 10, 2, 20, 8, 30, 2, 40, 8, 50, 9)},
		{"right and left in turns", gateway(), wayUp(4, 0), spots(50, 8, 40, 8, 30, 2, 20, 8, 10, 2, 0, 2)},
		{"left and right in turns, the last straight", gateway(), wayUp(0, 3), spots(0, 1, 10, 2, 20, 8, 30, 2, 40, 8)},
		{"to the left three times", around, wayUp(0, 7), spots(5, 9, 20, 10, 20, 20, 10, 20, 9, 11)},
		{"to the right three times", around, wayUp(7, 0), spots(9, 11, 10, 20, 20, 20, 20, 10, 5, 9)},
		{"round and back to where it began", around, wayUp(0, 7), spots(10, 10, 20, 10, 20, 20, 10, 20, 10, 10)},
		{"MaxFaces", band(mostFaces), wayUp(0, mostFaces-1), spots(1, 1, 99, 8)},
		{"MaxFaces, through ends alone", band(mostFaces), wayUp(0, mostFaces-1), spots(0, 0, 100, 0)},
		// doors that share one end, in the middle
		{"less than half round", ring, wayUp(0, 2), spots(10, 1, -1, 10)},
		{"just half round", ring, wayUp(0, 4), spots(10, 1, -10, -1)},
		{"half round and on", ring, wayUp(0, 4), spots(10, 1, 0, 0, -9, -1)},
		{"half round and on, back", ring, wayUp(4, 0), spots(-9, -1, 0, 0, 10, 1)},
		{"three quarters round", ring, wayUp(0, 6), spots(10, 1, 0, 0, 1, -10)},
		{"nearly once round", ring, wayUp(0, 7), spots(10, 1, 0, 0, 10, -1)},
		{"just once round, on the same line further out", ring, wayUp(0, 8), spots(10, 1, 0, 0, 20, 2)},
		{"just once round, to where it began", ring, wayUp(0, 8), spots(10, 1, 0, 0, 10, 1)},
		{"just once round, back", ring, wayUp(8, 0), spots(10, 1, 0, 0, 10, 1)},
		{"more than once round", ring, wayUp(0, 9), spots(10, 1, 0, 0, 1, 10)},
		{"once and a half round, straight", ring, wayUp(0, 12), spots(10, 1, -10, -1)},
		{"once and a half round, straight back", ring, wayUp(12, 0), spots(-10, -1, 10, 1)},
		{"once and a half round, and on", ring, wayUp(0, 12), spots(10, 2, 0, 0, -10, -1)},
		{"twice round", ring, wayUp(0, 16), spots(10, 1, 0, 0, 10, 1)},
		{"more than twice round", ring, wayUp(0, 19), spots(10, 1, 0, 0, -10, 1)},
		{"from the middle", ring, wayUp(0, 19), spots(0, 0, -10, 1)},
		{"to the middle", ring, wayUp(0, 19), spots(10, 1, 0, 0)},
		{"nowhere, in the middle", ring, wayUp(0, 19), spots(0, 0)},
		{"from a door of many", ring, wayUp(0, 4), spots(5, 5, -10, -1)},
		{"from a door of many, round", ring, wayUp(0, 5), spots(5, 5, 0, 0, -1, -10)},
		{"along a door to the middle and on", ring, wayUp(0, 5), spots(5, 5, -10, -10)},
	}
}

func TestPullTightTold(t *testing.T) {
	for _, c := range tightLines() {
		from, to := c.line[0], c.line[len(c.line)-1]
		wantPull(t, c.what, c.g, c.faces, from, to, c.line, true)
		pulled(t, c.what, c.g, c.faces, from, to)
	}
}

func TestPullTightWrong(t *testing.T) {
	const far = farGround
	g := bends()
	in, out := spot2(5, 5), spot2(15, 15)
	wantPull(t, "as it should be", g, []int{0, 1, 2}, spot2(5, 4), out, spots(5, 4, 15, 15), true)
	for _, p := range spots(11, 5, 5, 11, -1, 5, 5, -1, 15, 15, 20, 0, -far, 5, far+1, 5, 5, -far-1,
		math.MinInt, 0, math.MaxInt, 0, 0, math.MinInt, 0, math.MaxInt, math.MaxInt, math.MaxInt, math.MinInt, math.MinInt, 1<<32, 1<<32) {
		wantPull(t, "from outside", g, []int{0, 1, 2}, p, out, nil, false)
		wantPull(t, "to outside", g, []int{2, 1, 0}, out, p, nil, false)
		wantPull(t, "both outside", g, []int{0}, p, p, nil, false)
	}
	wantPull(t, "from in the second face", g, []int{0, 1}, spot2(15, 5), spot2(16, 5), nil, false)
	wantPull(t, "to in the first face", g, []int{0, 1}, in, spot2(6, 5), nil, false)
	// the first face that has a place need not be the one that is asked for
	wantPull(t, "from on the edge, in the second", g, []int{1, 2}, spot2(10, 5), spot2(15, 15), spots(10, 5, 15, 15), true)
	wantPull(t, "to on the edge, in the first", g, []int{2, 1}, spot2(15, 15), spot2(10, 5), spots(15, 15, 10, 5), true)
	wantPull(t, "the face below", overlaid(), []int{1}, spot2(2, 2), spot2(3, 3), spots(2, 2, 3, 3), true)
	for what, faces := range map[string][]int{
		"no face": nil, "twice": {0, 0}, "there and back": {0, 1, 0}, "not beside": {0, 2}, "below 0": {-1}, "beyond": {3},
		"far below": {math.MinInt}, "far beyond": {math.MaxInt}, "then below 0": {0, -1}, "then beyond": {0, 3},
		"first beyond": {3, 0}, "too many": slices.Repeat([]int{0}, 21), "far too many": slices.Repeat([]int{0, 1}, 200),
	} {
		wantPull(t, what, g, faces, in, in, nil, false)
	}
	for what, g := range badGrounds() {
		wantPull(t, what, g, []int{0}, spot2(1, 1), spot2(1, 1), nil, false)
		wantPull(t, what, g, []int{0, 1}, spot2(1, 1), spot2(1, 1), nil, false)
	}
	widest := goodGrounds()["just at the limit"]
	wantPull(t, "as far as may be", widest, []int{0}, spot2(-far, -far), spot2(far, far), spots(-far, -far, far, far), true)
	wantPull(t, "one beyond", widest, []int{0}, spot2(-far, -far), spot2(far, far+1), nil, false)
	wantPull(t, "one below", widest, []int{0}, spot2(-far-1, -far), spot2(far, far), nil, false)
}

// Every place of the first face and every one of the last, of grounds that are small enough.
func TestPullTightPlaceByPlace(t *testing.T) {
	small := groundOf(spots(0, 0, 2, 0, 2, 2, 0, 2), spots(2, 0, 4, 0, 2, 2), spots(4, 0, 4, 3, 2, 2), spots(4, 3, 1, 5, 2, 2), spots(1, 5, -1, 3, 2, 2))
	for what, c := range map[string]struct {
		g     impl.Ground
		faces []int
	}{
		"a corner's turn": {bends(), []int{0, 1, 2}},
		"gates":           {gateway(), wayUp(0, 4)},
		"gates back":      {gateway(), wayUp(4, 0)},
		"a small round":   {small, wayUp(0, 4)},
		"and back":        {small, wayUp(4, 0)},
		"a part of it":    {small, wayUp(3, 1)},
	} {
		ends := [2][]impl.Spot2{}
		for x := -1; x <= 50; x++ {
			for y := -1; y <= 20; y++ {
				for i, face := range []int{c.faces[0], c.faces[len(c.faces)-1]} {
					if slowInFace(c.g, face, spot2(x, y)) {
						ends[i] = append(ends[i], spot2(x, y))
					}
				}
			}
		}
		for _, from := range ends[0] {
			for _, to := range ends[1] {
				pulled(t, what, c.g, c.faces, from, to)
			}
		}
	}
}

// mixedUp gives a ground with its points and faces in another order and each face begun elsewhere, and
// the new number of each face.
func mixedUp(g impl.Ground, next func(int) int) (impl.Ground, []int) {
	order := func(many int) []int {
		out := wayUp(0, many-1)
		for i := range out {
			j := i + next(many-i)
			out[i], out[j] = out[j], out[i]
		}
		return out
	}
	points, faces := order(len(g.Points)), order(len(g.Faces))
	out := impl.Ground{Points: make([]impl.Spot2, len(g.Points)), Faces: make([][]int, len(g.Faces))}
	for i, number := range points {
		out.Points[number] = g.Points[i]
	}
	for i, number := range faces {
		first := next(len(g.Faces[i]))
		for j := range g.Faces[i] {
			out.Faces[number] = append(out.Faces[number], points[g.Faces[i][(first+j)%len(g.Faces[i])]])
		}
	}
	return out, faces
}

// coinSpot gives a place at most so far from another one.
func coinSpot(next func(int) int, about impl.Spot2, reach int) impl.Spot2 {
	return spot2(about.X+next(2*reach+1)-reach, about.Y+next(2*reach+1)-reach)
}

// coinRound gives the outmost of a few places as a first face.
func coinRound(next func(int) int, reach int) []impl.Spot2 {
	for {
		var some []impl.Spot2
		for range 3 + next(5) {
			some = append(some, coinSpot(next, spot2(0, 0), reach))
		}
		if hull := hullOf(some); len(hull) > 2 {
			return hull
		}
	}
}

// coinStrip lays faces of coins, each beside the one ahead, whatever lies there already.
func coinStrip(next func(int) int) impl.Ground {
	reach := []int{2, 3, 5, 20, 200, 1000}[next(6)]
	g := groundOf(coinRound(next, reach))
	many := 2 + next(mostFaces-1)
	for tries := 0; tries < 150 && len(g.Faces) < many; tries++ {
		corners := cornersOf(g, len(g.Faces)-1)
		at := next(len(corners))
		a, b := corners[at], corners[(at+1)%len(corners)]
		some := []impl.Spot2{a, b}
		for range 1 + next(3) {
			some = append(some, coinSpot(next, []impl.Spot2{a, b, {}}[next(3)], reach))
		}
		hull := hullOf(some)
		if i := slices.Index(hull, b); i < 0 || hull[(i+1)%len(hull)] != a {
			continue
		}
		if then := withFace(g, hull); slowGoodGround(then) {
			g = then
		}
	}
	return g
}

// coinFans lays triangles of coins round one point, then round another one, and so on, as far round
// as they come.
func coinFans(next func(int) int) impl.Ground {
	reach := []int{2, 4, 9, 100}[next(4)]
	first := coinRound(next, reach)[:3]
	g := groundOf(first)
	// Seen from within the first face a door's right end comes first.
	right, left, onLeft := first[0], first[1], next(2) == 0
	many := 2 + next(mostFaces-1)
	for tries := 0; tries < 200 && len(g.Faces) < many; tries++ {
		about := right
		if onLeft {
			about = left
		}
		p := coinSpot(next, about, reach)
		then := withFace(g, []impl.Spot2{left, right, p})
		if !slowGoodGround(then) {
			continue
		}
		g = then
		if onLeft {
			right = p
		} else {
			left = p
		}
		onLeft = onLeft != (next(7) == 0)
	}
	return g
}

// coinCells lays some of the fields of a grid whose lines are of coins; some fields are cut in two.
func coinCells(next func(int) int) impl.Ground {
	lines := func(many int) []int {
		at := next(20) - 40
		var out []int
		for range many {
			out = append(out, at)
			at += 1 + next(9)
		}
		return out
	}
	wide, high, holes := 1+next(5), 1+next(4), 1+next(4)
	xs, ys := lines(wide+1), lines(high+1)
	var g impl.Ground
	for i := range wide * high {
		x, y := i%wide, i/wide
		a, b, c, d := spot2(xs[x], ys[y]), spot2(xs[x+1], ys[y]), spot2(xs[x+1], ys[y+1]), spot2(xs[x], ys[y+1])
		faces := [][]impl.Spot2{{a, b, c, d}}
		if next(8) < holes {
			continue
		}
		switch next(8) {
		case 0:
			faces = [][]impl.Spot2{{a, b, c}, {a, c, d}}
		case 1:
			faces = [][]impl.Spot2{{a, b, d}, {b, c, d}}
		}
		for _, face := range faces {
			if len(g.Faces) < mostFaces {
				g = withFace(g, face)
			}
		}
	}
	if len(g.Faces) == 0 {
		return cellGround(place{0, 0})
	}
	return g
}

// coinWay goes from face to face as long as it comes on, to no face twice.
func coinWay(next func(int) int, g impl.Ground) []int {
	way := []int{next(len(g.Faces))}
	for len(way) < 1+next(mostFaces) {
		beside, _ := slowBeside(g, way[len(way)-1])
		beside = slices.DeleteFunc(beside, func(face int) bool { return slices.Contains(way, face) })
		if len(beside) == 0 {
			break
		}
		way = append(way, beside[next(len(beside))])
	}
	return way
}

// coinIn gives a place of a face: a corner, one of an edge or one within, as it comes.
func coinIn(next func(int) int, g impl.Ground, face int) impl.Spot2 {
	corners := cornersOf(g, face)
	for range 30 {
		a, b, c := corners[next(len(corners))], corners[next(len(corners))], corners[next(len(corners))]
		part, rest := next(13), next(13)
		p := spot2(a.X+(b.X-a.X)*part/12, a.Y+(b.Y-a.Y)*part/12)
		p = spot2(p.X+(c.X-p.X)*rest/12, p.Y+(c.Y-p.Y)*rest/12)
		if slowInFace(g, face, p) {
			return p
		}
	}
	return corners[next(len(corners))]
}

// coinGround gives a ground of coins, of each kind, and a way over it.
func coinGround(seed int) (impl.Ground, []int) {
	next := coinRow(seed + 1)
	switch seed % 4 {
	case 0:
		g, _ := mixedUp(coinCells(next), next)
		return g, coinWay(next, g)
	case 1:
		g, numbers := mixedUp(coinFans(next), next)
		return g, numbers
	case 2:
		g, numbers := mixedUp(coinStrip(next), next)
		slices.Reverse(numbers)
		return g, numbers
	}
	g, numbers := mixedUp(coinStrip(next), next)
	return g, numbers
}

// Promise 8, and that the line is the shortest one, over grounds of each kind.
func TestPullTightExactly(t *testing.T) {
	var turns [6]int
	back, still := 0, 0
	for seed := range 4000 {
		g, faces := coinGround(seed)
		next := coinRow(seed + 7)
		for range 4 {
			from, to := coinIn(next, g, faces[0]), coinIn(next, g, faces[len(faces)-1])
			line := pulled(t, fmt.Sprint("seed ", seed), g, faces, from, to)
			if len(line) == 1 {
				still++
				continue
			}
			turns[min(len(line)-2, 5)]++
			for i := 2; i < len(line); i++ {
				if crossed(minus(line[i-1], line[i-2]), minus(line[i], line[i-1])) == 0 {
					back++
				}
			}
		}
	}
	if slices.Min(turns[:]) < 100 || back < 10 || still < 50 {
		t.Error("turns:", turns, "straight back:", back, "nowhere:", still)
	}
}

// Lines by any places of the doors, and ones near the line itself, are never shorter.
func TestPullTightNoLineIsShorter(t *testing.T) {
	for seed := range 600 {
		g, faces := coinGround(seed + 50000)
		next := coinRow(seed + 11)
		from, to := coinIn(next, g, faces[0]), coinIn(next, g, faces[len(faces)-1])
		line, ok := impl.PullTight(g, faces, from, to)
		if !ok {
			t.Fatalf("PullTight %v %v %v %v says nothing", g, faces, from, to)
		}
		doors := doorPlaces(g, faces)
		for range 40 {
			x, y, length := float64(from.X), float64(from.Y), 0.0
			goOn := func(toX float64, toY float64) {
				length += math.Hypot(toX-x, toY-y)
				x, y = toX, toY
			}
			side := next(3)
			for _, door := range doors {
				part := float64(next(101)) / 100
				if next(3) > 0 && side < 2 {
					part = float64(side)
				}
				way := minus(door[1], door[0])
				goOn(float64(door[0].X)+part*float64(way.X), float64(door[0].Y)+part*float64(way.Y))
			}
			goOn(float64(to.X), float64(to.Y))
			if length < lengthOf(line)-1e-7 {
				t.Fatalf("PullTight %v %v %v %v = %v, but there is a line of %v", g, faces, from, to, line, length)
			}
		}
	}
}

// The line that is pulled tight from the other end is the same one, and so it is when the ground is
// turned, or its parts stand in another order.
func TestPullTightHangsOnNothingElse(t *testing.T) {
	for seed := range 1500 {
		g, faces := coinGround(seed + 9000)
		next := coinRow(seed + 5)
		from, to := coinIn(next, g, faces[0]), coinIn(next, g, faces[len(faces)-1])
		line, ok := impl.PullTight(g, faces, from, to)
		back := slices.Clone(faces)
		slices.Reverse(back)
		turnedBack, okBack := impl.PullTight(g, back, to, from)
		slices.Reverse(turnedBack)
		if !ok || !okBack || !slices.Equal(line, turnedBack) {
			t.Fatalf("PullTight %v %v = %v %v, from the other end %v %v", g, faces, line, ok, turnedBack, okBack)
		}
		other, numbers := mixedUp(g, next)
		var renamed []int
		for _, face := range faces {
			renamed = append(renamed, numbers[face])
		}
		if again, ok := impl.PullTight(other, renamed, from, to); !ok || !slices.Equal(line, again) {
			t.Fatalf("PullTight %v %v = %v, in another order %v %v", g, faces, line, again, ok)
		}
		quarter := func(p impl.Spot2) impl.Spot2 { return spot2(-p.Y, p.X) }
		var whole impl.Ground
		for _, p := range g.Points {
			whole.Points = append(whole.Points, quarter(p))
		}
		whole.Faces = g.Faces
		again, ok := impl.PullTight(whole, faces, quarter(from), quarter(to))
		for i := range again {
			again[i] = quarter(quarter(quarter(again[i])))
		}
		if !ok || !slices.Equal(line, again) {
			t.Fatalf("PullTight %v %v = %v, turned %v %v", g, faces, line, again, ok)
		}
	}
}

func TestFewestFacesExactly(t *testing.T) {
	found := [2]int{}
	for seed := range 400 {
		g, _ := coinGround(seed)
		for from := range g.Faces {
			beside, _ := slowBeside(g, from)
			if got, ok := impl.Beside(g, from); !ok || !slices.Equal(got, beside) {
				t.Fatalf("Beside %v %d = %v %v, not %v", g, from, got, ok, beside)
			}
			to := (from*7 + seed) % len(g.Faces)
			want, good := slowFewest(g, from, to)
			if got, ok := impl.FewestFaces(g, from, to); ok != good || !slices.Equal(got, want) {
				t.Fatalf("FewestFaces %v %d %d = %v %v, not %v %v", g, from, to, got, ok, want, good)
			}
			if good {
				found[1]++
			} else {
				found[0]++
			}
		}
	}
	if found[0] < 50 || found[1] < 1000 {
		t.Error("no way and way:", found)
	}
}

// spoiled gives a ground of which one thing is changed, or none.
func spoiled(g impl.Ground, next func(int) int) impl.Ground {
	numbers := []int{-1, 0, 1, len(g.Points) - 1, len(g.Points), farGround, farGround + 1, -farGround, -farGround - 1, math.MinInt, math.MaxInt, 1 << 32}
	number := numbers[next(len(numbers))]
	at := next(len(g.Faces))
	switch next(12) {
	case 0:
		g.Points[next(len(g.Points))].X = number
	case 1:
		g.Points[next(len(g.Points))].Y = number
	case 2:
		g.Faces[at][next(len(g.Faces[at]))] = number
	case 3:
		slices.Reverse(g.Faces[at])
	case 4:
		g.Faces[at] = append(g.Faces[at], next(len(g.Points)))
	case 5:
		g.Faces[at] = g.Faces[at][:next(len(g.Faces[at]))]
	case 6:
		g.Faces = append(g.Faces, g.Faces[at])
	case 7:
		g.Points[next(len(g.Points))] = g.Points[next(len(g.Points))]
	case 8:
		g.Points = g.Points[:next(len(g.Points))]
	}
	return g
}

// Promise 29: grounds, ways and places of any kind; what is answered is what the document says of them.
func TestWaysAnswerAtAnyArguments(t *testing.T) {
	good, tight := [2]int{}, [2]int{}
	for seed := range 1200 {
		g, faces := coinGround(seed + 20000)
		next := coinRow(seed + 3)
		from, to := coinIn(next, g, faces[0]), coinIn(next, g, faces[len(faces)-1])
		g = spoiled(g, next)
		numbers := []int{-1, 0, len(g.Faces) - 1, len(g.Faces), 5, math.MinInt, math.MaxInt}
		number := numbers[next(len(numbers))]
		far := []int{farGround + 1, -farGround - 1, math.MinInt, math.MaxInt, 0, 3}[next(6)]
		switch next(10) {
		case 0:
			faces[next(len(faces))] = number
		case 1:
			faces = append(faces, number)
		case 2:
			faces = faces[:next(len(faces))]
		case 3:
			from.X = far
		case 4:
			to.Y = far
		}
		if got := purely(t, "GoodGround", impl.GoodGround, g); got[0] != slowGoodGround(g) {
			t.Fatalf("GoodGround %v = %v", g, got)
		}
		wantFaceAt(t, "any", g, from.X, from.Y, slowFaceAt(g, from))
		beside, fine := slowBeside(g, number)
		wantBeside(t, "any", g, number, beside, fine)
		way, fine := slowFewest(g, number, 0)
		wantFewest(t, "any", g, number, 0, way, fine)
		doors, fine := slowDoors(g, faces)
		wantDoors(t, "any", g, faces, doors, fine)
		line, held := slowPull(g, faces, from, to)
		wantPull(t, "any", g, faces, from, to, line, held)
		if slowGoodGround(g) {
			good[1]++
		} else {
			good[0]++
		}
		if held {
			tight[1]++
		} else {
			tight[0]++
		}
	}
	if good[0] < 200 || good[1] < 200 || tight[0] < 200 || tight[1] < 200 {
		t.Error("bad and good grounds:", good, "no line and line:", tight)
	}
}

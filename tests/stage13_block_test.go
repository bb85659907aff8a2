package tests

import (
	"cmp"
	"fmt"
	"maps"
	"math"
	"slices"
	"strings"
	"testing"

	"loop.example/g00064/impl"
)

const mostEdge = 8
const mostKind = 9
const mostLight = 15
const mostLamps = 20

// drawn gives blocks out of pictures, one for each z from 0 on: rows for each y, digits for each x.
func drawn(pictures ...string) impl.Blocks {
	var b impl.Blocks
	for _, picture := range pictures {
		rows := strings.Split(picture, "/")
		for _, row := range rows {
			for _, digit := range row {
				b.Cells = append(b.Cells, int(digit-'0'))
			}
			b.Wide = len(row)
		}
		b.High = len(rows)
	}
	b.Deep = len(pictures)
	return b
}

// filled gives blocks of one kind.
func filled(wide int, high int, deep int, kind int) impl.Blocks {
	return impl.Blocks{Wide: wide, High: high, Deep: deep, Cells: slices.Repeat([]int{kind}, wide*high*deep)}
}

// motley gives blocks in which every kind is, each cell unlike those around it.
func motley(wide int, high int, deep int) impl.Blocks {
	b := filled(wide, high, deep, 0)
	for i := range b.Cells {
		b.Cells[i] = i * 7 % (mostKind + 1)
	}
	return b
}

// site is where a cell lies: x, y, z.
type site [3]int

func (s site) beside(way int) site {
	return [6]site{
		{s[0] - 1, s[1], s[2]}, {s[0] + 1, s[1], s[2]},
		{s[0], s[1] - 1, s[2]}, {s[0], s[1] + 1, s[2]},
		{s[0], s[1], s[2] - 1}, {s[0], s[1], s[2] + 1},
	}[way]
}

// sitesOf gives the sites of all cells in the order of their numbers.
func sitesOf(b impl.Blocks) []site {
	var out []site
	for z := range b.Deep {
		for y := range b.High {
			for x := range b.Wide {
				out = append(out, site{x, y, z})
			}
		}
	}
	return out
}

// kindsBySite gives the kinds of all cells; where there is no cell a map says 0, as of air.
func kindsBySite(b impl.Blocks) map[site]int {
	out := map[site]int{}
	for i, s := range sitesOf(b) {
		out[s] = b.Cells[i]
	}
	return out
}

// numbersBySite gives the number of each cell.
func numbersBySite(b impl.Blocks) map[site]int {
	out := map[site]int{}
	for i, s := range sitesOf(b) {
		out[s] = i
	}
	return out
}

func slowGoodBlocks(b impl.Blocks) bool {
	for _, edge := range []int{b.Wide, b.High, b.Deep} {
		if !slices.Contains([]int{1, 2, 3, 4, 5, 6, 7, 8}, edge) {
			return false
		}
	}
	for _, kind := range b.Cells {
		if !slices.Contains(counted(mostKind+1), kind) {
			return false
		}
	}
	return len(b.Cells) == len(sitesOf(b))
}

// looseFace is an open face; by their fields they lie in the order in which quads are found.
type looseFace struct {
	way int
	at  int
	v   int
	u   int
}

func compareFaces(a looseFace, b looseFace) int {
	return cmp.Or(cmp.Compare(a.way, b.way), cmp.Compare(a.at, b.at), cmp.Compare(a.v, b.v), cmp.Compare(a.u, b.u))
}

// looseFaces gives the kinds of all open faces.
func looseFaces(b impl.Blocks) map[looseFace]int {
	out, kinds := map[looseFace]int{}, kindsBySite(b)
	for s, kind := range kinds {
		for way := range 6 {
			if kind > 0 && kinds[s.beside(way)] == 0 {
				rest := slices.Delete(slices.Clone(s[:]), way/2, way/2+1)
				out[looseFace{way, s[way/2], rest[1], rest[0]}] = kind
			}
		}
	}
	return out
}

func slowOpenFaces(b impl.Blocks) ([]int, bool) {
	if !slowGoodBlocks(b) {
		return nil, false
	}
	out := make([]int, 6)
	for face := range looseFaces(b) {
		out[face.way]++
	}
	return out, true
}

// facesOf gives the faces that a quad covers.
func facesOf(q impl.Quad) []looseFace {
	var out []looseFace
	for v := range q.H {
		for u := range q.W {
			out = append(out, looseFace{q.Way, q.At, q.V + v, q.U + u})
		}
	}
	return out
}

// slowQuads takes the first face that is left again and again, and of all quads that begin there and
// cover faces of its kind the widest one, of those as wide the highest.
func slowQuads(b impl.Blocks) ([]impl.Quad, bool) {
	if !slowGoodBlocks(b) {
		return nil, false
	}
	left := looseFaces(b)
	var out []impl.Quad
	for _, face := range slices.SortedFunc(maps.Keys(left), compareFaces) {
		kind := left[face]
		if kind == 0 {
			continue
		}
		q := impl.Quad{Way: face.way, At: face.at, U: face.u, V: face.v, W: mostEdge, H: 1, Kind: kind}
		lacks := func() bool {
			return slices.ContainsFunc(facesOf(q), func(f looseFace) bool { return left[f] != kind })
		}
		for lacks() {
			q.W--
		}
		for q.H = mostEdge; lacks(); {
			q.H--
		}
		for _, f := range facesOf(q) {
			delete(left, f)
		}
		out = append(out, q)
	}
	return out, true
}

// slowFlood gives all cells marks of their own, and like neighbours the lesser of theirs, until nothing changes.
func slowFlood(b impl.Blocks, x int, y int, z int) ([]int, bool) {
	if !slowGoodBlocks(b) || !slices.Contains(sitesOf(b), site{x, y, z}) {
		return nil, false
	}
	sites, kinds, marks := sitesOf(b), kindsBySite(b), numbersBySite(b)
	for changed := true; changed; {
		changed = false
		for _, s := range sites {
			for way := range 6 {
				mark, there := marks[s.beside(way)]
				if there && (kinds[s] == 0) == (kinds[s.beside(way)] == 0) && mark < marks[s] {
					marks[s], changed = mark, true
				}
			}
		}
	}
	var out []int
	for i, s := range sites {
		if marks[s] == marks[site{x, y, z}] {
			out = append(out, i)
		}
	}
	return out, true
}

func slowGoodLamps(b impl.Blocks, lamps []int) bool {
	strange := func(lamp int) bool { return !slices.Contains(counted(len(b.Cells)), lamp) }
	sorted := slices.Compact(slices.Sorted(slices.Values(lamps)))
	return len(lamps) <= mostLamps && slices.Equal(lamps, sorted) && !slices.ContainsFunc(lamps, strange)
}

// lightAsTold gives what the document says of the light of a cell, when the cells around it have that light.
func lightAsTold(b impl.Blocks, lamps []int, cell int, s site, light map[site]int) int {
	if slices.Contains(lamps, cell) {
		return mostLight
	}
	if b.Cells[cell] != 0 {
		return 0
	}
	greatest := 1
	for way := range 6 {
		greatest = max(greatest, light[s.beside(way)])
	}
	return greatest - 1
}

// slowLight begins in the dark and does what the document says, until nothing changes.
func slowLight(b impl.Blocks, lamps []int) ([]int, bool) {
	if !slowGoodBlocks(b) || !slowGoodLamps(b, lamps) {
		return nil, false
	}
	sites, light := sitesOf(b), map[site]int{}
	for range mostLight + 1 {
		later := map[site]int{}
		for i, s := range sites {
			later[s] = lightAsTold(b, lamps, i, s, light)
		}
		light = later
	}
	var out []int
	for _, s := range sites {
		out = append(out, light[s])
	}
	return out, true
}

func wantBlockAt(t *testing.T, what string, b impl.Blocks, x int, y int, z int, want int) {
	t.Helper()
	if got := purely(t, "BlockAt", impl.BlockAt, b, x, y, z); got[0] != want {
		t.Errorf("%s: BlockAt %v, %d, %d, %d = %v, want %d", what, b, x, y, z, got, want)
	}
}

func wantSetBlock(t *testing.T, what string, b impl.Blocks, s site, kind int, want impl.Blocks, good bool) {
	t.Helper()
	got := purely(t, "SetBlock", impl.SetBlock, b, s[0], s[1], s[2], kind)
	if !alike(got[0], want) || got[1] != good {
		t.Errorf("%s: SetBlock %v, %v, %d = %v, want %v, %v", what, b, s, kind, got, want, good)
	}
}

func wantOpenFaces(t *testing.T, what string, b impl.Blocks, want []int, good bool) {
	t.Helper()
	if got := purely(t, "OpenFaces", impl.OpenFaces, b); !alike(got[0], want) || got[1] != good {
		t.Errorf("%s: OpenFaces %v = %v, want %v, %v", what, b, got, want, good)
	}
}

func wantQuads(t *testing.T, what string, b impl.Blocks, want []impl.Quad, good bool) {
	t.Helper()
	if got := purely(t, "QuadsOf", impl.QuadsOf, b); !alike(got[0], want) || got[1] != good {
		t.Errorf("%s: QuadsOf %v = %v, want %v, %v", what, b, got, want, good)
	}
}

func wantFlood(t *testing.T, what string, b impl.Blocks, x int, y int, z int, want []int, good bool) {
	t.Helper()
	if got := purely(t, "FloodFrom", impl.FloodFrom, b, x, y, z); !alike(got[0], want) || got[1] != good {
		t.Errorf("%s: FloodFrom %v, %d, %d, %d = %v, want %v, %v", what, b, x, y, z, got, want, good)
	}
}

func wantLight(t *testing.T, what string, b impl.Blocks, lamps []int, want []int, good bool) {
	t.Helper()
	if got := purely(t, "LightOf", impl.LightOf, b, lamps); !alike(got[0], want) || got[1] != good {
		t.Errorf("%s: LightOf %v, %v = %v, want %v, %v", what, b, lamps, got, want, good)
	}
}

// asSlow holds all that is told of blocks as a whole against the slow models.
func asSlow(t *testing.T, what string, b impl.Blocks) {
	t.Helper()
	if got := purely(t, "GoodBlocks", impl.GoodBlocks, b); got[0] != slowGoodBlocks(b) {
		t.Errorf("%s: GoodBlocks %v = %v", what, b, got)
	}
	open, good := slowOpenFaces(b)
	wantOpenFaces(t, what, b, open, good)
	quads, good := slowQuads(b)
	wantQuads(t, what, b, quads, good)
}

// goodGrids holds blocks at each limit that the document names.
func goodGrids() map[string]impl.Blocks {
	out := map[string]impl.Blocks{
		"one cell of air":   filled(1, 1, 1, 0),
		"one cell, no air":  filled(1, 1, 1, mostKind),
		"all air":           filled(3, 4, 5, 0),
		"no air":            filled(5, 4, 3, 2),
		"the most, all air": filled(mostEdge, mostEdge, mostEdge, 0),
		"the most, no air":  filled(mostEdge, mostEdge, mostEdge, 1),
		"the most, motley":  motley(mostEdge, mostEdge, mostEdge),
		"all unlike edges":  motley(3, 5, 7),
	}
	for _, edge := range []int{1, 2, mostEdge - 1, mostEdge} {
		out[fmt.Sprint("Wide ", edge)] = motley(edge, 2, 3)
		out[fmt.Sprint("High ", edge)] = motley(2, edge, 3)
		out[fmt.Sprint("Deep ", edge)] = motley(2, 3, edge)
	}
	for kind := range mostKind + 1 {
		for i := range 12 {
			b := filled(2, 3, 2, 1)
			b.Cells[i] = kind
			out[fmt.Sprint("kind ", kind, " at ", i)] = b
		}
	}
	return out
}

// badGrids holds blocks that are not good, in each way that the document names.
func badGrids() map[string]impl.Blocks {
	cells := func(many int) []int { return make([]int, many) }
	out := map[string]impl.Blocks{
		"nothing":               {},
		"cells alone":           {Cells: cells(1)},
		"no cell":               {Wide: 1, High: 1, Deep: 1},
		"two edges below 0":     {Wide: -1, High: -1, Deep: 1, Cells: cells(1)},
		"the other two":         {Wide: 1, High: -2, Deep: -2, Cells: cells(4)},
		"the outer two":         {Wide: -2, High: 2, Deep: -2, Cells: cells(8)},
		"a product that wraps":  {Wide: 1 << 32, High: 1 << 32, Deep: 1},
		"another":               {Wide: 1 << 22, High: 1 << 21, Deep: 1 << 21, Cells: nil},
		"far too many cells":    {Wide: 8, High: 8, Deep: 8, Cells: cells(5000)},
		"long and thin":         {Wide: 9, High: 1, Deep: 1, Cells: cells(9)},
		"cells of twice as far": {Wide: 16, High: 4, Deep: 8, Cells: cells(512)},
	}
	for _, edge := range append(farNumbers(), -1, 0, mostEdge+1, -mostEdge, 16, 1<<32+2) {
		many := 0
		if 0 < edge && edge < 20 {
			many = 6 * edge
		}
		for i, many := range []int{many, 12} {
			out[fmt.Sprint("Wide ", edge, ", ", i)] = impl.Blocks{Wide: edge, High: 2, Deep: 3, Cells: cells(many)}
			out[fmt.Sprint("High ", edge, ", ", i)] = impl.Blocks{Wide: 2, High: edge, Deep: 3, Cells: cells(many)}
			out[fmt.Sprint("Deep ", edge, ", ", i)] = impl.Blocks{Wide: 2, High: 3, Deep: edge, Cells: cells(many)}
		}
	}
	for _, many := range []int{0, 1, 11, 13, 24} {
		out[fmt.Sprint("cells ", many)] = impl.Blocks{Wide: 2, High: 3, Deep: 2, Cells: cells(many)}
	}
	for _, kind := range append(farNumbers(), -1, mostKind+1, -mostKind, 1<<32, 1<<32+1, 256) {
		for _, at := range []int{0, 5, 11} {
			b := filled(2, 3, 2, 1)
			b.Cells[at] = kind
			out[fmt.Sprint("kind ", kind, " at ", at)] = b
		}
	}
	return out
}

// notSites holds places that are no cells of blocks: beyond each corner along each way, and far ones.
func notSites(b impl.Blocks) []site {
	var out []site
	edges := site{b.Wide, b.High, b.Deep}
	for _, s := range sitesOf(b) {
		for i := range s {
			for _, n := range append(farNumbers(), -1, edges[i], edges[i]+1, -edges[i], 1<<32+s[i]) {
				other := s
				other[i] = n
				out = append(out, other)
			}
		}
	}
	return append(out, site{-1, -1, -1}, edges, site{math.MinInt, math.MinInt, math.MinInt}, site{math.MaxInt, math.MaxInt, math.MaxInt})
}

func TestBlockConstants(t *testing.T) {
	got := [3]int{impl.MaxEdge, impl.MaxKind, impl.MaxLight}
	if got != [3]int{mostEdge, mostKind, mostLight} {
		t.Error(got)
	}
}

func TestGoodBlocks(t *testing.T) {
	for what, b := range goodGrids() {
		if !slowGoodBlocks(b) || purely(t, what, impl.GoodBlocks, b)[0] != true {
			t.Error(what, b, "are not good")
		}
	}
	for what, b := range badGrids() {
		if slowGoodBlocks(b) || purely(t, what, impl.GoodBlocks, b)[0] != false {
			t.Error(what, b, "are good")
		}
	}
}

func TestBlockAtTold(t *testing.T) {
	b := drawn("012/345", "678/912", "340/567", "891/234")
	for _, c := range []struct{ x, y, z, want int }{
		{0, 0, 0, 0}, {1, 0, 0, 1}, {2, 0, 0, 2}, {0, 1, 0, 3}, {1, 1, 0, 4}, {2, 1, 0, 5},
		{0, 0, 1, 6}, {2, 1, 1, 2}, {2, 0, 2, 0}, {0, 1, 2, 5}, {0, 0, 3, 8}, {1, 0, 3, 9}, {0, 1, 3, 2}, {2, 0, 3, 1}, {2, 1, 3, 4},
		{-1, 0, 0, -1}, {3, 0, 0, -1}, {0, -1, 0, -1}, {0, 2, 0, -1}, {0, 0, -1, -1}, {0, 0, 4, -1},
		{-1, 1, 3, -1}, {3, 1, 3, -1}, {2, -1, 3, -1}, {2, 2, 3, -1}, {2, 1, -1, -1}, {2, 1, 4, -1}, {3, 2, 4, -1},
	} {
		wantBlockAt(t, "told", b, c.x, c.y, c.z, c.want)
	}
}

func TestBlockAtEachCell(t *testing.T) {
	for what, b := range goodGrids() {
		for i, s := range sitesOf(b) {
			wantBlockAt(t, what, b, s[0], s[1], s[2], b.Cells[i])
		}
	}
}

func TestBlockAtNoCell(t *testing.T) {
	for _, b := range []impl.Blocks{filled(1, 1, 1, 3), filled(2, 3, 2, 1), filled(3, 1, 2, 0)} {
		for _, s := range notSites(b) {
			wantBlockAt(t, "no cell", b, s[0], s[1], s[2], -1)
		}
	}
	for what, b := range badGrids() {
		wantBlockAt(t, what, b, 0, 0, 0, -1)
		wantBlockAt(t, what, b, 1, 1, 1, -1)
	}
}

func TestSetBlock(t *testing.T) {
	for _, b := range []impl.Blocks{filled(1, 1, 1, 3), motley(2, 3, 4), motley(4, 1, 2), filled(3, 3, 3, 0)} {
		for i, s := range sitesOf(b) {
			for kind := range mostKind + 1 {
				want := b
				want.Cells = slices.Clone(b.Cells)
				want.Cells[i] = kind
				wantSetBlock(t, "told", b, s, kind, want, true)
			}
			for _, kind := range append(farNumbers(), -1, mostKind+1, 1<<32) {
				wantSetBlock(t, "no kind", b, s, kind, impl.Blocks{}, false)
			}
		}
	}
	wantSetBlock(t, "told", drawn("12/34", "56/78"), site{1, 0, 1}, 0, drawn("12/34", "50/78"), true)
	wantSetBlock(t, "told", drawn("12/34", "56/78"), site{0, 1, 0}, 9, drawn("12/94", "56/78"), true)
}

func TestSetBlockOfWrongInputs(t *testing.T) {
	for _, b := range []impl.Blocks{filled(1, 1, 1, 3), filled(2, 3, 2, 1)} {
		for _, s := range notSites(b) {
			for _, kind := range []int{-1, 0, 1, mostKind, mostKind + 1} {
				wantSetBlock(t, "no cell", b, s, kind, impl.Blocks{}, false)
			}
		}
	}
	for what, b := range badGrids() {
		for _, kind := range []int{-1, 0, 1, mostKind + 1} {
			wantSetBlock(t, what, b, site{}, kind, impl.Blocks{}, false)
		}
	}
}

// What is set is there from then on, and all else as it was.
func TestSetAndAsked(t *testing.T) {
	next := coinRow(13)
	b := filled(3, 4, 5, 0)
	kept := kindsBySite(b)
	for range 400 {
		s, kind := site{next(3), next(4), next(5)}, next(mostKind+1)
		var good bool
		b, good = impl.SetBlock(b, s[0], s[1], s[2], kind)
		kept[s] = kind
		for s, kind := range kept {
			if got := impl.BlockAt(b, s[0], s[1], s[2]); got != kind || !good {
				t.Fatal(b, s, got, kind, good)
			}
		}
	}
}

func TestOpenFacesTold(t *testing.T) {
	for _, c := range []struct {
		what string
		b    impl.Blocks
		want []int
	}{
		{"one cell of air", drawn("0"), []int{0, 0, 0, 0, 0, 0}},
		{"all air", filled(3, 2, 4, 0), []int{0, 0, 0, 0, 0, 0}},
		{"one cell alone", drawn("1"), []int{1, 1, 1, 1, 1, 1}},
		{"one in the midst of air", drawn("000/000/000", "000/050/000", "000/000/000"), []int{1, 1, 1, 1, 1, 1}},
		{"air in the midst", drawn("111/111/111", "111/101/111", "111/111/111"), []int{10, 10, 10, 10, 10, 10}},
		{"two of a kind along x", drawn("11"), []int{1, 1, 2, 2, 2, 2}},
		{"two kinds along x", drawn("12"), []int{1, 1, 2, 2, 2, 2}},
		{"two of a kind along y", drawn("1/1"), []int{2, 2, 1, 1, 2, 2}},
		{"two kinds along y", drawn("1/2"), []int{2, 2, 1, 1, 2, 2}},
		{"two of a kind along z", drawn("1", "1"), []int{2, 2, 2, 2, 1, 1}},
		{"two kinds along z", drawn("1", "2"), []int{2, 2, 2, 2, 1, 1}},
		{"air between", drawn("101"), []int{2, 2, 2, 2, 2, 2}},
		{"no air", filled(2, 3, 4, 7), []int{12, 12, 8, 8, 6, 6}},
		{"the most", filled(8, 8, 8, 9), []int{64, 64, 64, 64, 64, 64}},
		{"the end of a row is not beside the next", drawn("01/10"), []int{2, 2, 2, 2, 2, 2}},
		{"nor that of a layer", drawn("00/01", "10/00"), []int{2, 2, 2, 2, 2, 2}},
		{"air on one side", drawn("011"), []int{1, 1, 2, 2, 2, 2}},
		{"a stair", drawn("100/110/111"), []int{3, 3, 3, 3, 6, 6}},
	} {
		wantOpenFaces(t, c.what, c.b, c.want, true)
		asSlow(t, c.what, c.b)
	}
}

func quad(way int, at int, u int, v int, w int, h int, kind int) impl.Quad {
	return impl.Quad{Way: way, At: at, U: u, V: v, W: w, H: h, Kind: kind}
}

func TestQuadsTold(t *testing.T) {
	for _, c := range []struct {
		what string
		b    impl.Blocks
		want []impl.Quad
	}{
		{"all air", filled(2, 2, 2, 0), nil},
		{"one cell", drawn("3"), []impl.Quad{quad(0, 0, 0, 0, 1, 1, 3), quad(1, 0, 0, 0, 1, 1, 3), quad(2, 0, 0, 0, 1, 1, 3),
			quad(3, 0, 0, 0, 1, 1, 3), quad(4, 0, 0, 0, 1, 1, 3), quad(5, 0, 0, 0, 1, 1, 3)}},
		{"no air, all unlike edges", filled(2, 3, 4, 7), []impl.Quad{quad(0, 0, 0, 0, 3, 4, 7), quad(1, 1, 0, 0, 3, 4, 7), quad(2, 0, 0, 0, 2, 4, 7),
			quad(3, 2, 0, 0, 2, 4, 7), quad(4, 0, 0, 0, 2, 3, 7), quad(5, 3, 0, 0, 2, 3, 7)}},
		{"two of a kind", drawn("11"), []impl.Quad{quad(0, 0, 0, 0, 1, 1, 1), quad(1, 1, 0, 0, 1, 1, 1), quad(2, 0, 0, 0, 2, 1, 1),
			quad(3, 0, 0, 0, 2, 1, 1), quad(4, 0, 0, 0, 2, 1, 1), quad(5, 0, 0, 0, 2, 1, 1)}},
		{"two kinds", drawn("12"), []impl.Quad{quad(0, 0, 0, 0, 1, 1, 1), quad(1, 1, 0, 0, 1, 1, 2), quad(2, 0, 0, 0, 1, 1, 1), quad(2, 0, 1, 0, 1, 1, 2),
			quad(3, 0, 0, 0, 1, 1, 1), quad(3, 0, 1, 0, 1, 1, 2), quad(4, 0, 0, 0, 1, 1, 1), quad(4, 0, 1, 0, 1, 1, 2),
			quad(5, 0, 0, 0, 1, 1, 1), quad(5, 0, 1, 0, 1, 1, 2)}},
		{"two layers of one way", drawn("101"), []impl.Quad{quad(0, 0, 0, 0, 1, 1, 1), quad(0, 2, 0, 0, 1, 1, 1), quad(1, 0, 0, 0, 1, 1, 1), quad(1, 2, 0, 0, 1, 1, 1),
			quad(2, 0, 0, 0, 1, 1, 1), quad(2, 0, 2, 0, 1, 1, 1), quad(3, 0, 0, 0, 1, 1, 1), quad(3, 0, 2, 0, 1, 1, 1),
			quad(4, 0, 0, 0, 1, 1, 1), quad(4, 0, 2, 0, 1, 1, 1), quad(5, 0, 0, 0, 1, 1, 1), quad(5, 0, 2, 0, 1, 1, 1)}},
		{"a step up", drawn("11", "01"), []impl.Quad{quad(0, 0, 0, 0, 1, 1, 1), quad(0, 1, 0, 1, 1, 1, 1), quad(1, 1, 0, 0, 1, 2, 1),
			quad(2, 0, 0, 0, 2, 1, 1), quad(2, 0, 1, 1, 1, 1, 1), quad(3, 0, 0, 0, 2, 1, 1), quad(3, 0, 1, 1, 1, 1, 1),
			quad(4, 0, 0, 0, 2, 1, 1), quad(5, 0, 0, 0, 1, 1, 1), quad(5, 1, 1, 0, 1, 1, 1)}},
	} {
		wantQuads(t, c.what, c.b, c.want, true)
		asSlow(t, c.what, c.b)
	}
}

// laidAcross gives blocks that have a picture, rows along V and digits along U, in one layer of a way, and air in the others.
func laidAcross(picture string, way int, at int, layers int) impl.Blocks {
	flat := drawn(picture)
	edges := slices.Insert([]int{flat.Wide, flat.High}, way/2, layers)
	b := filled(edges[0], edges[1], edges[2], 0)
	numbers := numbersBySite(b)
	for i, s := range sitesOf(flat) {
		to := site(slices.Insert([]int{s[0], s[1]}, way/2, at))
		b.Cells[numbers[to]] = flat.Cells[i]
	}
	return b
}

// seenQuads holds pictures, each with the U, V, W, H and Kind of the quads that it is laid together of.
func seenQuads() map[string][][5]int {
	return map[string][][5]int{
		"0":                 nil,
		"1":                 {{0, 0, 1, 1, 1}},
		"111/111":           {{0, 0, 3, 2, 1}},
		"11111111":          {{0, 0, 8, 1, 1}},
		"1/1/1/1/1/1/1/1":   {{0, 0, 1, 8, 1}},
		"112/112":           {{0, 0, 2, 2, 1}, {2, 0, 1, 2, 2}},
		"11/22":             {{0, 0, 2, 1, 1}, {0, 1, 2, 1, 2}},
		"11011":             {{0, 0, 2, 1, 1}, {3, 0, 2, 1, 1}},
		"1/0/1":             {{0, 0, 1, 1, 1}, {0, 2, 1, 1, 1}},
		"111/110":           {{0, 0, 3, 1, 1}, {0, 1, 2, 1, 1}},
		"111/112":           {{0, 0, 3, 1, 1}, {0, 1, 2, 1, 1}, {2, 1, 1, 1, 2}},
		"111/101":           {{0, 0, 3, 1, 1}, {0, 1, 1, 1, 1}, {2, 1, 1, 1, 1}},
		"111/011":           {{0, 0, 3, 1, 1}, {1, 1, 2, 1, 1}},
		"110/111":           {{0, 0, 2, 2, 1}, {2, 1, 1, 1, 1}},
		"01/11":             {{1, 0, 1, 2, 1}, {0, 1, 1, 1, 1}},
		"010/111":           {{1, 0, 1, 2, 1}, {0, 1, 1, 1, 1}, {2, 1, 1, 1, 1}},
		"010/111/111":       {{1, 0, 1, 3, 1}, {0, 1, 1, 2, 1}, {2, 1, 1, 2, 1}},
		"011/111/110":       {{1, 0, 2, 2, 1}, {0, 1, 1, 2, 1}, {1, 2, 1, 1, 1}},
		"11/11/10/11":       {{0, 0, 2, 2, 1}, {0, 2, 1, 2, 1}, {1, 3, 1, 1, 1}},
		"11/12/11":          {{0, 0, 2, 1, 1}, {0, 1, 1, 2, 1}, {1, 1, 1, 1, 2}, {1, 2, 1, 1, 1}},
		"1100/0110/0011":    {{0, 0, 2, 1, 1}, {1, 1, 2, 1, 1}, {2, 2, 2, 1, 1}},
		"01/10":             {{1, 0, 1, 1, 1}, {0, 1, 1, 1, 1}},
		"9999/9009/9999":    {{0, 0, 4, 1, 9}, {0, 1, 1, 2, 9}, {3, 1, 1, 2, 9}, {1, 2, 2, 1, 9}},
		"121/222/121":       {{0, 0, 1, 1, 1}, {1, 0, 1, 3, 2}, {2, 0, 1, 1, 1}, {0, 1, 1, 1, 2}, {2, 1, 1, 1, 2}, {0, 2, 1, 1, 1}, {2, 2, 1, 1, 1}},
		"11000011/00011000": {{0, 0, 2, 1, 1}, {6, 0, 2, 1, 1}, {3, 1, 2, 1, 1}},
	}
}

// Each picture is laid together alike along each way and in each layer.
func TestQuadsAlongEachWay(t *testing.T) {
	for picture, seen := range seenQuads() {
		for way := range 6 {
			for _, layers := range []int{1, 2, 5, mostEdge} {
				for at := range layers {
					var want []impl.Quad
					for _, q := range seen {
						want = append(want, quad(way, at, q[0], q[1], q[2], q[3], q[4]))
					}
					b := laidAcross(picture, way, at, layers)
					quads, good := impl.QuadsOf(b)
					along := slices.DeleteFunc(slices.Clone(quads), func(q impl.Quad) bool { return q.Way != way })
					if !good || !slices.Equal(along, want) {
						t.Fatal(picture, way, at, layers, along, want, good)
					}
				}
			}
		}
		asSlow(t, picture, laidAcross(picture, 1, 1, 3))
		asSlow(t, picture, laidAcross(picture, 3, 0, 2))
		asSlow(t, picture, laidAcross(picture, 5, 0, 1))
	}
}

// A layer knows nothing of the one ahead of it: what lies in its quads is not told of the next one.
func TestQuadsOfLayersByThemselves(t *testing.T) {
	for way := range 6 {
		b := laidAcross("111/111", way, 0, 5)
		for _, at := range []int{2, 4} {
			for i, kind := range laidAcross("222/222", way, at, 5).Cells {
				b.Cells[i] = max(b.Cells[i], kind)
			}
		}
		want := []impl.Quad{quad(way, 0, 0, 0, 3, 2, 1), quad(way, 2, 0, 0, 3, 2, 2), quad(way, 4, 0, 0, 3, 2, 2)}
		quads, _ := impl.QuadsOf(b)
		if along := slices.DeleteFunc(quads, func(q impl.Quad) bool { return q.Way != way }); !slices.Equal(along, want) {
			t.Error(way, along, want)
		}
		asSlow(t, "by themselves", b)
	}
}

// A face that another cell hides is in no quad, and a quad ends there.
func TestQuadsEndAtHiddenFaces(t *testing.T) {
	b := drawn("111/111", "020/000")
	want := []impl.Quad{quad(5, 0, 0, 0, 1, 2, 1), quad(5, 0, 2, 0, 1, 2, 1), quad(5, 0, 1, 1, 1, 1, 1), quad(5, 1, 1, 0, 1, 1, 2)}
	quads, _ := impl.QuadsOf(b)
	if over := slices.DeleteFunc(quads, func(q impl.Quad) bool { return q.Way != 5 }); !slices.Equal(over, want) {
		t.Error(over, want)
	}
	asSlow(t, "hidden", b)
}

// holdsFaces asks promise 13 of blocks: each open face lies in just one quad, of its kind, and nothing else does.
func holdsFaces(t *testing.T, b impl.Blocks) {
	t.Helper()
	quads, good := impl.QuadsOf(b)
	open, alsoGood := impl.OpenFaces(b)
	faces, covered := looseFaces(b), make([]int, 6)
	for _, q := range quads {
		for _, f := range facesOf(q) {
			covered[f.way]++
			if faces[f] != q.Kind || q.Kind == 0 {
				t.Fatal(b, q, f)
			}
			delete(faces, f)
		}
	}
	first := func(q impl.Quad) looseFace { return looseFace{q.Way, q.At, q.V, q.U} }
	inOrder := slices.IsSortedFunc(quads, func(p impl.Quad, q impl.Quad) int { return compareFaces(first(p), first(q)) })
	if !good || !alsoGood || len(faces) != 0 || !slices.Equal(covered, open) || !inOrder {
		t.Fatal(b, quads, open, faces)
	}
}

// Promise 13, at the limits, and of all small blocks of few kinds.
func TestQuadsAreJustTheOpenFaces(t *testing.T) {
	for what, b := range goodGrids() {
		holdsFaces(t, b)
		asSlow(t, what, b)
	}
	for _, edges := range []site{{2, 2, 2}, {3, 3, 1}, {1, 3, 3}, {3, 1, 3}} {
		b := filled(edges[0], edges[1], edges[2], 0)
		for more := true; more; {
			holdsFaces(t, b)
			more = false
			// The next one in the order of numbers of three digits.
			for i := range b.Cells {
				if b.Cells[i]++; b.Cells[i] < 3 {
					more = true
					break
				}
				b.Cells[i] = 0
			}
		}
	}
}

// coinBlocks gives blocks out of coins, of few kinds, now more and now less of them air.
func coinBlocks(next func(int) int) impl.Blocks {
	most := 4
	if next(5) == 0 {
		most = mostEdge
	}
	b := filled(1+next(most), 1+next(most), 1+next(most), 0)
	kinds, full := 1+next(3), 1+next(9)
	if next(6) == 0 {
		kinds = mostKind
	}
	for i := range b.Cells {
		if next(10) < full {
			b.Cells[i] = 1 + next(kinds)
		}
	}
	return b
}

func TestBlocksOfCoins(t *testing.T) {
	for seed := range 1500 {
		b := coinBlocks(coinRow(seed + 7))
		holdsFaces(t, b)
		asSlow(t, "coins", b)
	}
}

// Quads along x are those along y or z of the same ground turned, told by hand where U and V come to lie.
func TestQuadsOfTurnedGround(t *testing.T) {
	for seed := range 200 {
		b := coinBlocks(coinRow(seed + 4321))
		turned := filled(b.High, b.Deep, b.Wide, 0)
		numbers := numbersBySite(turned)
		for i, s := range sitesOf(b) {
			turned.Cells[numbers[site{s[1], s[2], s[0]}]] = b.Cells[i]
		}
		straight, _ := impl.QuadsOf(b)
		other, _ := impl.QuadsOf(turned)
		var want []impl.Quad
		for _, q := range straight {
			if q.Way < 2 {
				q.Way += 4
				want = append(want, q)
			}
		}
		got := slices.DeleteFunc(other, func(q impl.Quad) bool { return q.Way < 4 })
		if !slices.Equal(got, want) {
			t.Fatal(b, got, want)
		}
	}
}

func TestFloodsTold(t *testing.T) {
	corner := drawn("0010/1110/0000")
	walled := drawn("11111/10001/10101/10001/11111")
	tower := drawn("10/11", "01/11", "11/10")
	for _, c := range []struct {
		what    string
		b       impl.Blocks
		x, y, z int
		want    []int
	}{
		{"one cell of air", drawn("0"), 0, 0, 0, []int{0}},
		{"one cell, no air", drawn("4"), 0, 0, 0, []int{0}},
		{"all air", filled(2, 3, 2, 0), 1, 2, 1, counted(12)},
		{"no air", filled(2, 3, 2, 5), 1, 0, 1, counted(12)},
		{"several kinds", drawn("123/456", "789/123"), 2, 0, 1, counted(12)},
		{"round a corner, shut in", corner, 0, 0, 0, []int{0, 1}},
		{"round a corner, air", corner, 3, 0, 0, []int{3, 7, 8, 9, 10, 11}},
		{"from its other end", corner, 0, 2, 0, []int{3, 7, 8, 9, 10, 11}},
		{"no air round a corner", corner, 2, 0, 0, []int{2, 4, 5, 6}},
		{"from the middle", corner, 1, 1, 0, []int{2, 4, 5, 6}},
		{"a ring of air", walled, 1, 1, 0, []int{6, 7, 8, 11, 13, 16, 17, 18}},
		{"a single cell in it", walled, 2, 2, 0, []int{12}},
		{"the walls around it", walled, 0, 0, 0, []int{0, 1, 2, 3, 4, 5, 9, 10, 14, 15, 19, 20, 21, 22, 23, 24}},
		{"not over an edge", drawn("01/10"), 0, 0, 0, []int{0}},
		{"not from a row's end to the next", drawn("101/011"), 2, 0, 0, []int{2, 4, 5}},
		{"along z, first", tower, 0, 0, 0, []int{0, 2, 3, 5, 6, 7, 8, 9, 10}},
		{"along z, a cell of air", tower, 1, 0, 0, []int{1}},
		{"along z, another", tower, 0, 0, 1, []int{4}},
		{"along z, a third", tower, 1, 1, 2, []int{11}},
		{"up and down again", drawn("010", "010", "000"), 0, 0, 0, []int{0, 2, 3, 5, 6, 7, 8}},
		{"of two kinds apart", drawn("102"), 0, 0, 0, []int{0}},
		{"of two kinds beside", drawn("120"), 0, 0, 0, []int{0, 1}},
		{"the most", filled(8, 8, 8, 0), 7, 7, 7, counted(512)},
	} {
		wantFlood(t, c.what, c.b, c.x, c.y, c.z, c.want, true)
		slow, good := slowFlood(c.b, c.x, c.y, c.z)
		if !slices.Equal(slow, c.want) || !good {
			t.Error(c.what, slow, good)
		}
	}
}

// Floods from all cells of one flood are the same, and all floods together have each cell once.
func TestFloodsPartTheGround(t *testing.T) {
	for seed := range 300 {
		b := coinBlocks(coinRow(seed + 99))
		if len(b.Cells) > 120 {
			continue
		}
		owner := map[int]int{}
		for i, s := range sitesOf(b) {
			want, _ := slowFlood(b, s[0], s[1], s[2])
			wantFlood(t, "coins", b, s[0], s[1], s[2], want, true)
			got, _ := impl.FloodFrom(b, s[0], s[1], s[2])
			for _, cell := range got {
				if first, there := owner[cell]; there && first != got[0] {
					t.Fatal(b, i, got)
				}
				owner[cell] = got[0]
			}
		}
	}
}

func TestFloodsOfWrongInputs(t *testing.T) {
	for _, b := range []impl.Blocks{filled(1, 1, 1, 3), filled(2, 3, 2, 1), filled(2, 1, 3, 0)} {
		for _, s := range notSites(b) {
			wantFlood(t, "no cell", b, s[0], s[1], s[2], nil, false)
		}
	}
	for what, b := range badGrids() {
		wantFlood(t, what, b, 0, 0, 0, nil, false)
		wantFlood(t, what, b, 1, 1, 1, nil, false)
	}
}

func TestLightTold(t *testing.T) {
	for _, c := range []struct {
		what  string
		b     impl.Blocks
		lamps []int
		want  []int
	}{
		{"no lamp, air", drawn("000"), nil, []int{0, 0, 0}},
		{"no lamp, no air", drawn("121"), nil, []int{0, 0, 0}},
		{"one cell of air", drawn("0"), []int{0}, []int{15}},
		{"one cell, no air", drawn("9"), []int{0}, []int{15}},
		{"a lamp at an end", drawn("0000"), []int{0}, []int{15, 14, 13, 12}},
		{"a lamp in the middle", drawn("0000"), []int{2}, []int{13, 14, 15, 14}},
		{"a lamp in a cell that is no air", drawn("01000"), []int{1}, []int{14, 15, 14, 13, 12}},
		{"cells that are no air have none", drawn("111"), []int{1}, []int{0, 15, 0}},
		{"light is shut in", drawn("01000"), []int{0}, []int{15, 0, 0, 0, 0}},
		{"light round a wall", drawn("010/010/000"), []int{0}, []int{15, 0, 9, 14, 0, 10, 13, 12, 11}},
		{"light round a wall along z", drawn("010", "010", "000"), []int{0}, []int{15, 0, 9, 14, 0, 10, 13, 12, 11}},
		{"two lamps whose lights meet", drawn("000000"), []int{0, 5}, []int{15, 14, 13, 13, 14, 15}},
		{"and meet in one cell", drawn("00000"), []int{0, 4}, []int{15, 14, 13, 14, 15}},
		{"lamps side by side", drawn("0000"), []int{1, 2}, []int{14, 15, 15, 14}},
		{"lamps on two sides of a wall", drawn("00100"), []int{0, 3}, []int{15, 14, 0, 15, 14}},
		{"a wall of a lamp", drawn("00100"), []int{0, 2}, []int{15, 14, 15, 14, 13}},
		{"a lamp in a wall lights both sides", drawn("010/010"), []int{1}, []int{14, 15, 14, 13, 0, 13}},
		{"light that sinks to 0", drawn("00000000/11111110/00000000"), []int{0},
			[]int{15, 14, 13, 12, 11, 10, 9, 8, 0, 0, 0, 0, 0, 0, 0, 7, 0, 0, 1, 2, 3, 4, 5, 6}},
		{"all around", drawn("00/00", "00/00"), []int{0}, []int{15, 14, 14, 13, 14, 13, 13, 12}},
		{"all around the last", drawn("00/00", "00/00"), []int{7}, []int{12, 13, 13, 14, 13, 14, 14, 15}},
		{"not from a row's end to the next", drawn("00/10/00"), []int{1}, []int{14, 15, 0, 14, 12, 13}},
		{"not over an edge", drawn("01/10"), []int{0}, []int{15, 0, 0, 0}},
		{"as many lamps as may be", filled(7, 3, 1, 1), counted(20), append(slices.Repeat([]int{15}, 20), 0)},
	} {
		wantLight(t, c.what, c.b, c.lamps, c.want, true)
		slow, good := slowLight(c.b, c.lamps)
		if !slices.Equal(slow, c.want) || !good {
			t.Error(c.what, slow, good)
		}
	}
}

// In the open, light is by steps along the three axes; at the far corner it has sunk to 0.
func TestLightInTheOpen(t *testing.T) {
	b := filled(mostEdge, mostEdge, mostEdge, 0)
	for _, lamp := range []site{{0, 0, 0}, {7, 7, 7}, {3, 4, 5}, {0, 7, 0}} {
		var want []int
		for _, s := range sitesOf(b) {
			far := 0
			for i := range s {
				far += max(s[i]-lamp[i], lamp[i]-s[i])
			}
			want = append(want, max(0, mostLight-far))
		}
		wantLight(t, "in the open", b, []int{numbersBySite(b)[lamp]}, want, true)
	}
}

func TestLightOfManyLamps(t *testing.T) {
	b := filled(7, 3, 2, 0)
	for many := range mostLamps + 3 {
		want, good := slowLight(b, counted(many))
		if good != (many <= 20) {
			t.Error(many, good)
		}
		wantLight(t, "many lamps", b, counted(many), want, good)
	}
}

func TestLightOfWrongInputs(t *testing.T) {
	b := drawn("000/010", "100/000")
	for what, lamps := range map[string][]int{
		"twice the same":       {3, 3},
		"not rising":           {4, 3},
		"not rising at first":  {2, 1, 5},
		"not rising at last":   {1, 5, 2},
		"the same at last":     {1, 5, 5},
		"below 0":              {-1},
		"below 0, others":      {-1, 0, 1},
		"one beyond":           {12},
		"one beyond, others":   {0, 11, 12},
		"in the midst":         {0, 12, 3},
		"one too many":         counted(21),
		"far too many":         counted(2000),
		"far too many, alike":  make([]int, 2000),
		"far out":              {math.MaxInt},
		"far out below":        {math.MinInt},
		"far out, with others": {0, 1 << 32},
		"from far below":       {math.MinInt, 0},
	} {
		if slowGoodLamps(b, lamps) {
			t.Error(what, "are good")
		}
		wantLight(t, what, b, lamps, nil, false)
	}
	for what, b := range badGrids() {
		wantLight(t, what, b, nil, nil, false)
		wantLight(t, what, b, []int{0}, nil, false)
	}
}

func coinLamps(next func(int) int, b impl.Blocks) []int {
	many := next(4)
	if next(6) == 0 {
		many = mostLamps
	}
	var out []int
	for range many {
		out = append(out, next(len(b.Cells)))
	}
	slices.Sort(out)
	return slices.Compact(out)
}

// The light of each cell is what the document says of it, with the light around it as it was answered.
func TestLightOfCoins(t *testing.T) {
	sunk := 0
	for seed := range 400 {
		next := coinRow(seed + 555)
		b := coinBlocks(next)
		if len(b.Cells) > 200 {
			continue
		}
		lamps := coinLamps(next, b)
		want, good := slowLight(b, lamps)
		wantLight(t, "coins", b, lamps, want, good)
		got, _ := impl.LightOf(b, lamps)
		light := map[site]int{}
		for i, s := range sitesOf(b) {
			light[s] = got[i]
			if got[i] == 0 && b.Cells[i] == 0 && len(lamps) > 0 {
				sunk++
			}
		}
		for i, s := range sitesOf(b) {
			if got[i] != lightAsTold(b, lamps, i, s, light) {
				t.Fatal(b, lamps, got, i)
			}
		}
	}
	if sunk < 20 {
		t.Error("too few cells in the dark", sunk)
	}
}

// strangeNumber gives a number at or beyond a limit of this chapter, or a small one.
func strangeNumber(next func(int) int) int {
	odd := append(farNumbers(), -1, 0, 1, 2, 3, mostEdge, mostEdge+1, mostKind, mostKind+1, mostLight, mostLamps, mostLamps+1, 511, 512, 1<<32)
	return odd[next(len(odd))]
}

// spoiledBlocks gives blocks with something in them that may be not good.
func spoiledBlocks(b impl.Blocks, next func(int) int) impl.Blocks {
	b.Cells = slices.Clone(b.Cells)
	switch next(6) {
	case 0:
		b.Wide = strangeNumber(next)
	case 1:
		b.High = strangeNumber(next)
	case 2:
		b.Deep = strangeNumber(next)
	case 3:
		b.Cells[next(len(b.Cells))] = strangeNumber(next)
	case 4:
		b.Cells = b.Cells[:next(len(b.Cells))]
	default:
		b.Cells = append(b.Cells, next(mostKind+1))
	}
	return b
}

// Promise 29.
func TestBlocksAnswerAtAnyArguments(t *testing.T) {
	kinds := map[bool]int{}
	for seed := range 2500 {
		next := coinRow(seed + 1313)
		b := coinBlocks(next)
		if len(b.Cells) > 150 {
			continue
		}
		s, kind, lamps := site{next(4), next(4), next(4)}, next(mostKind+1), coinLamps(next, b)
		if next(2) == 0 {
			b = spoiledBlocks(b, next)
		}
		if next(3) == 0 {
			s[next(3)], kind = strangeNumber(next), strangeNumber(next)
			lamps = append(lamps, strangeNumber(next))
		}
		good := slowGoodBlocks(b)
		kinds[good]++
		asSlow(t, "any", b)
		want, then := -1, impl.Blocks{}
		number := slices.Index(sitesOf(bounded(b)), s)
		if good && number >= 0 {
			want = b.Cells[number]
			then = b
			then.Cells = slices.Clone(b.Cells)
			then.Cells[number] = kind
		}
		wantBlockAt(t, "any", b, s[0], s[1], s[2], want)
		if !slowGoodBlocks(then) {
			then = impl.Blocks{}
		}
		wantSetBlock(t, "any", b, s, kind, then, slowGoodBlocks(then))
		flood, reached := slowFlood(b, s[0], s[1], s[2])
		wantFlood(t, "any", b, s[0], s[1], s[2], flood, reached)
		light, lit := slowLight(b, lamps)
		wantLight(t, "any", b, lamps, light, lit)
	}
	if kinds[true] < 500 || kinds[false] < 500 {
		t.Error(kinds)
	}
}

// bounded gives the blocks themselves if they are good, and none otherwise, as their sites could not be gone through.
func bounded(b impl.Blocks) impl.Blocks {
	if slowGoodBlocks(b) {
		return b
	}
	return impl.Blocks{}
}

func TestWrongBlocksAreRefused(t *testing.T) {
	for what, b := range badGrids() {
		wantOpenFaces(t, what, b, nil, false)
		wantQuads(t, what, b, nil, false)
	}
}

package tests

import (
	"fmt"
	"math"
	"slices"
	"strings"
	"testing"

	"loop.example/g00064/impl"
)

const farPlace = 1000000

// place is an x and a y.
type place [2]int

// cornersSeen are places by which any two spots can be told apart.
var cornersSeen = []place{{0, 0}, {1, 0}, {0, 1}, {3, 5}, {-7, 2}}

// turned does the eight ways of standing, written out: first flipped, then turned.
func turned(turns int, flip bool, p place) place {
	x, y := p[0], p[1]
	if flip {
		x = -x
	}
	return [...]place{{x, y}, {-y, x}, {-x, -y}, {y, -x}}[turns]
}

// standsAt does to a place what the document says that a spot does.
func standsAt(s impl.Spot, p place) place {
	p = turned(s.Turns, s.Flip, p)
	return place{p[0] + s.X, p[1] + s.Y}
}

// eightWays gives all ways of standing, at 0, 0.
func eightWays() []impl.Spot {
	var out []impl.Spot
	for turns := range 4 {
		out = append(out, impl.Spot{Turns: turns}, impl.Spot{Turns: turns, Flip: true})
	}
	return out
}

// spotThrough gives the one spot that does to places what f does.
func spotThrough(f func(place) place) impl.Spot {
	for _, s := range eightWays() {
		s.X, s.Y = f(place{})[0], f(place{})[1]
		if !slices.ContainsFunc(cornersSeen, func(p place) bool { return standsAt(s, p) != f(p) }) {
			return s
		}
	}
	panic("nothing stands so")
}

// takenBack gives the place that a spot brings to p.
func takenBack(s impl.Spot, p place) place {
	x, y := p[0]-s.X, p[1]-s.Y
	for _, from := range []place{{x, y}, {x, -y}, {-x, y}, {-x, -y}, {y, x}, {y, -x}, {-y, x}, {-y, -x}} {
		if standsAt(s, from) == p {
			return from
		}
	}
	panic("no place comes there")
}

func slowGoodSpot(s impl.Spot) bool {
	far := func(x int) bool { return x < -1000000 || x > 1000000 }
	return !far(s.X) && !far(s.Y) && slices.Contains([]int{0, 1, 2, 3}, s.Turns)
}

// slowJoin follows places through b and then a.
func slowJoin(a impl.Spot, b impl.Spot) (impl.Spot, bool) {
	if !slowGoodSpot(a) || !slowGoodSpot(b) {
		return impl.Spot{}, false
	}
	s := spotThrough(func(p place) place { return standsAt(a, standsAt(b, p)) })
	if !slowGoodSpot(s) {
		return impl.Spot{}, false
	}
	return s, true
}

// spotSpread holds all eight ways at ordinary places and at the limits.
func spotSpread() []impl.Spot {
	places := []place{
		{0, 0}, {1, 0}, {0, -1}, {2, 3}, {-500000, 500001}, {farPlace, 0}, {0, farPlace}, {-farPlace, 7},
		{-3, -farPlace}, {farPlace, farPlace}, {-farPlace, farPlace - 1}, {-farPlace, -farPlace},
	}
	var out []impl.Spot
	for _, p := range places {
		for _, s := range eightWays() {
			s.X, s.Y = p[0], p[1]
			out = append(out, s)
		}
	}
	return out
}

// badSpots holds spots that are not good, in each way.
func badSpots() []impl.Spot {
	var out []impl.Spot
	for _, far := range []int{farPlace + 1, -farPlace - 1, 2 * farPlace, math.MaxInt, math.MinInt, math.MaxInt - 1} {
		out = append(out, impl.Spot{X: far}, impl.Spot{Y: far}, impl.Spot{X: far, Y: -far, Flip: true})
	}
	for _, turns := range []int{-1, 4, -4, 5, 8, math.MaxInt, math.MinInt} {
		out = append(out, impl.Spot{Turns: turns}, impl.Spot{X: 1, Y: 2, Turns: turns, Flip: true})
	}
	return out
}

func wantSpot(t *testing.T, what string, got []any, want impl.Spot, good bool) {
	t.Helper()
	if len(got) != 2 || got[0] != want || got[1] != good {
		t.Errorf("%s: %v, wanted %v with %v", what, got, want, good)
	}
}

func TestConstantsOfScenes(t *testing.T) {
	if impl.MaxNodes != 40 || impl.MaxPlace != 1000000 {
		t.Error(impl.MaxNodes, impl.MaxPlace)
	}
}

func TestJoinSpotsTold(t *testing.T) {
	for _, c := range []struct{ a, b, want impl.Spot }{
		{impl.Spot{}, impl.Spot{}, impl.Spot{}},
		{impl.Spot{}, impl.Spot{X: 3, Y: 4, Turns: 3, Flip: true}, impl.Spot{X: 3, Y: 4, Turns: 3, Flip: true}},
		{impl.Spot{X: 3, Y: 4, Turns: 3, Flip: true}, impl.Spot{}, impl.Spot{X: 3, Y: 4, Turns: 3, Flip: true}},
		{impl.Spot{X: 10, Y: 20}, impl.Spot{X: 1, Y: 2}, impl.Spot{X: 11, Y: 22}},
		// a place of b, turned by a
		{impl.Spot{X: 10, Y: 20, Turns: 1}, impl.Spot{X: 1, Y: 2}, impl.Spot{X: 8, Y: 21, Turns: 1}},
		{impl.Spot{X: 10, Y: 20, Turns: 2}, impl.Spot{X: 1, Y: 2}, impl.Spot{X: 9, Y: 18, Turns: 2}},
		{impl.Spot{X: 10, Y: 20, Turns: 3}, impl.Spot{X: 1, Y: 2}, impl.Spot{X: 12, Y: 19, Turns: 3}},
		// first flipped, then turned
		{impl.Spot{X: 10, Y: 20, Flip: true}, impl.Spot{X: 1, Y: 2}, impl.Spot{X: 9, Y: 22, Flip: true}},
		{impl.Spot{X: 10, Y: 20, Turns: 1, Flip: true}, impl.Spot{X: 1, Y: 2}, impl.Spot{X: 8, Y: 19, Turns: 1, Flip: true}},
		{impl.Spot{X: 10, Y: 20, Turns: 2, Flip: true}, impl.Spot{X: 1, Y: 2}, impl.Spot{X: 11, Y: 18, Turns: 2, Flip: true}},
		{impl.Spot{X: 10, Y: 20, Turns: 3, Flip: true}, impl.Spot{X: 1, Y: 2}, impl.Spot{X: 12, Y: 21, Turns: 3, Flip: true}},
		// turns together, over the round
		{impl.Spot{Turns: 1}, impl.Spot{Turns: 2}, impl.Spot{Turns: 3}},
		{impl.Spot{Turns: 2}, impl.Spot{Turns: 2}, impl.Spot{}},
		{impl.Spot{Turns: 3}, impl.Spot{Turns: 3}, impl.Spot{Turns: 2}},
		// a flip behind a turn takes the turn the other way
		{impl.Spot{Flip: true}, impl.Spot{Turns: 1}, impl.Spot{Turns: 3, Flip: true}},
		{impl.Spot{Turns: 1}, impl.Spot{Flip: true}, impl.Spot{Turns: 1, Flip: true}},
		{impl.Spot{Turns: 1, Flip: true}, impl.Spot{Turns: 3}, impl.Spot{Turns: 2, Flip: true}},
		{impl.Spot{Flip: true}, impl.Spot{Flip: true}, impl.Spot{}},
		{impl.Spot{Turns: 1, Flip: true}, impl.Spot{Turns: 1, Flip: true}, impl.Spot{}},
		{impl.Spot{X: 5, Flip: true}, impl.Spot{X: 5, Turns: 2, Flip: true}, impl.Spot{Turns: 2}},
	} {
		what := fmt.Sprint("JoinSpots ", c.a, c.b)
		wantSpot(t, what, purely(t, what, impl.JoinSpots, c.a, c.b), c.want, true)
	}
}

func TestJoinSpotsAtTheLimit(t *testing.T) {
	most := impl.Spot{X: farPlace, Y: -farPlace}
	for _, c := range []struct {
		a, b impl.Spot
		want impl.Spot
		good bool
	}{
		{impl.Spot{X: farPlace - 1}, impl.Spot{X: 1}, impl.Spot{X: farPlace}, true},
		{impl.Spot{X: farPlace}, impl.Spot{X: 1}, impl.Spot{}, false},
		{impl.Spot{X: 1 - farPlace}, impl.Spot{X: -1}, impl.Spot{X: -farPlace}, true},
		{impl.Spot{X: -farPlace}, impl.Spot{X: -1}, impl.Spot{}, false},
		{impl.Spot{Y: farPlace - 1}, impl.Spot{Y: 1}, impl.Spot{Y: farPlace}, true},
		{impl.Spot{Y: farPlace}, impl.Spot{Y: 1}, impl.Spot{}, false},
		{impl.Spot{Y: 1 - farPlace}, impl.Spot{Y: -1}, impl.Spot{Y: -farPlace}, true},
		{impl.Spot{Y: -farPlace}, impl.Spot{Y: -1, Turns: 2, Flip: true}, impl.Spot{}, false},
		{most, most, impl.Spot{}, false},
		{most, impl.Spot{X: -farPlace, Y: farPlace}, impl.Spot{}, true},
		{impl.Spot{X: farPlace, Flip: true}, impl.Spot{X: 1}, impl.Spot{X: farPlace - 1, Flip: true}, true},
		{impl.Spot{X: farPlace, Flip: true}, impl.Spot{X: -1}, impl.Spot{}, false},
		{impl.Spot{Y: farPlace, Turns: 1}, impl.Spot{X: 1}, impl.Spot{}, false},
		{impl.Spot{Y: farPlace, Turns: 3}, impl.Spot{X: 1}, impl.Spot{Y: farPlace - 1, Turns: 3}, true},
	} {
		what := fmt.Sprint("JoinSpots ", c.a, c.b)
		wantSpot(t, what, purely(t, what, impl.JoinSpots, c.a, c.b), c.want, c.good)
	}
}

func TestJoinSpotsExactly(t *testing.T) {
	for _, a := range spotSpread() {
		for _, b := range spotSpread() {
			got, ok := impl.JoinSpots(a, b)
			want, good := slowJoin(a, b)
			if got != want || ok != good {
				t.Fatalf("JoinSpots(%v, %v): %v %v, wanted %v %v", a, b, got, ok, want, good)
			}
		}
	}
}

func TestBackSpotTold(t *testing.T) {
	for _, c := range []struct{ a, want impl.Spot }{
		{impl.Spot{}, impl.Spot{}},
		{impl.Spot{X: 3, Y: -4}, impl.Spot{X: -3, Y: 4}},
		{impl.Spot{X: 3, Y: 4, Turns: 1}, impl.Spot{X: -4, Y: 3, Turns: 3}},
		{impl.Spot{X: 3, Y: 4, Turns: 2}, impl.Spot{X: 3, Y: 4, Turns: 2}},
		{impl.Spot{X: 3, Y: 4, Turns: 3}, impl.Spot{X: 4, Y: -3, Turns: 1}},
		{impl.Spot{X: 3, Y: 4, Flip: true}, impl.Spot{X: 3, Y: -4, Flip: true}},
		{impl.Spot{X: 3, Y: 4, Turns: 1, Flip: true}, impl.Spot{X: 4, Y: 3, Turns: 1, Flip: true}},
		{impl.Spot{X: 3, Y: 4, Turns: 2, Flip: true}, impl.Spot{X: -3, Y: 4, Turns: 2, Flip: true}},
		{impl.Spot{X: 3, Y: 4, Turns: 3, Flip: true}, impl.Spot{X: -4, Y: -3, Turns: 3, Flip: true}},
		{impl.Spot{X: farPlace, Y: -farPlace}, impl.Spot{X: -farPlace, Y: farPlace}},
		{impl.Spot{X: -farPlace, Y: -farPlace, Turns: 1}, impl.Spot{X: farPlace, Y: -farPlace, Turns: 3}},
	} {
		what := fmt.Sprint("BackSpot ", c.a)
		wantSpot(t, what, purely(t, what, impl.BackSpot, c.a), c.want, true)
	}
}

// Promise 4: what a spot does is taken back, ahead of it and behind it.
func TestSpotsAreUndone(t *testing.T) {
	for _, a := range spotSpread() {
		back, ok := impl.BackSpot(a)
		if !ok || !slowGoodSpot(back) {
			t.Fatalf("BackSpot(%v): %v %v", a, back, ok)
		}
		for _, p := range append(cornersSeen, place{farPlace, -farPlace}) {
			if got := standsAt(back, standsAt(a, p)); got != p {
				t.Errorf("%v, taken back by %v: %v goes to %v", a, back, p, got)
			}
		}
		what := fmt.Sprint("undone ", a)
		wantSpot(t, what, purely(t, what, impl.JoinSpots, back, a), impl.Spot{}, true)
		wantSpot(t, what, purely(t, what, impl.JoinSpots, a, back), impl.Spot{}, true)
		wantSpot(t, what, purely(t, what, impl.BackSpot, back), a, true)
	}
}

func TestSpotsThatAreNotGoodGiveNothing(t *testing.T) {
	good := []impl.Spot{{}, {X: 1, Y: 2, Turns: 3, Flip: true}, {X: -farPlace, Y: farPlace}, {X: farPlace, Turns: 2}}
	for _, bad := range badSpots() {
		what := fmt.Sprint(bad)
		wantSpot(t, what, purely(t, what, impl.BackSpot, bad), impl.Spot{}, false)
		wantSpot(t, what, purely(t, what, impl.JoinSpots, bad, bad), impl.Spot{}, false)
		for _, s := range good {
			wantSpot(t, what, purely(t, what, impl.JoinSpots, bad, s), impl.Spot{}, false)
			wantSpot(t, what, purely(t, what, impl.JoinSpots, s, bad), impl.Spot{}, false)
		}
	}
}

// smallScene has two topmost nodes, branches and turns, and a name that comes again elsewhere.
//
//	0 a
//	  1 b
//	  3 arm
//	    5 b
//	  4 a
//	    6 hand
//	2 b
//	  7 b
func smallScene() []impl.Node {
	return []impl.Node{
		{Name: "a", Up: -1, X: 10, Y: 20, Turns: 1},
		{Name: "b", Up: 0, X: 1, Y: 2, Flip: true},
		{Name: "b", Up: -1, X: -5, Turns: 2, Flip: true},
		{Name: "arm", Up: 0, X: 7, Y: -1, Turns: 3, Flip: true},
		{Name: "a", Up: 0, Y: 4, Turns: 2},
		{Name: "b", Up: 3, X: 3, Y: 3, Turns: 1},
		{Name: "hand", Up: 4, X: -2, Y: 8, Flip: true},
		{Name: "b", Up: 2, X: 100, Y: -100, Turns: 1, Flip: true},
	}
}

// chain gives nodes of which each hangs on the one just ahead.
func chain(many int, x int) []impl.Node {
	var l []impl.Node
	for i := range many {
		l = append(l, impl.Node{Name: fmt.Sprintf("n%d", i), Up: i - 1, X: x})
	}
	return l
}

// fan gives nodes that hang on nothing.
func fan(many int) []impl.Node {
	l := chain(many, 1)
	for i := range l {
		l[i].Up = -1
	}
	return l
}

// fitting gives the small scene with one node made another.
func fitting(at int, n impl.Node) []impl.Node {
	l := smallScene()
	l[at] = n
	return l
}

// goodScenes holds ordinary scenes and those that meet a limit exactly.
func goodScenes() map[string][]impl.Node {
	return map[string][]impl.Node{
		"no node":        {},
		"one node":       {{Name: "a", Up: -1}},
		"small":          smallScene(),
		"many in a row":  chain(impl.MaxNodes, 25000),
		"many beside":    fan(impl.MaxNodes),
		"one fewer":      chain(impl.MaxNodes-1, 1),
		"places at both": {{Name: "a", Up: -1, X: farPlace, Y: -farPlace}, {Name: "b", Up: 0, X: -farPlace, Y: farPlace}},
		"far in sum":     {{Name: "a", Up: -1, X: farPlace}, {Name: "b", Up: 0, X: farPlace}, {Name: "c", Up: 1, X: -1}},
		"all turns":      {{Name: "a", Up: -1}, {Name: "b", Up: 0, Turns: 1}, {Name: "c", Up: 1, Turns: 2}, {Name: "d", Up: 2, Turns: 3}},
		"all flipped":    {{Name: "a", Up: -1, Flip: true}, {Name: "b", Up: 0, Turns: 1, Flip: true}, {Name: "c", Up: -1, Turns: 3, Flip: true}},
		"one name":       {{Name: "a", Up: -1}, {Name: "a", Up: 0}, {Name: "a", Up: 1}, {Name: "b", Up: 0}, {Name: "a", Up: 3}},
		"long names":     {{Name: longName, Up: -1}, {Name: longName, Up: 0}, {Name: longName[1:], Up: 0}, {Name: "_9", Up: 0}, {Name: "A", Up: 0}},
		"out of order":   {{Name: "z", Up: -1}, {Name: "y", Up: -1}, {Name: "x", Up: 0}, {Name: "w", Up: 1}, {Name: "v", Up: 0}},
	}
}

// badScenes holds a scene for each way in which one is not good.
func badScenes() map[string][]impl.Node {
	out := map[string][]impl.Node{
		"a node too many":      fan(impl.MaxNodes + 1),
		"one too many in line": chain(impl.MaxNodes+1, 0),
		"far too many":         fan(2000),
		"Up of the first 0":    {{Name: "a", Up: 0}},
		"Up of the first 1":    {{Name: "a", Up: 1}, {Name: "b", Up: 0}},
		"two in a ring":        {{Name: "r", Up: -1}, {Name: "a", Up: 2}, {Name: "b", Up: 1}},
		"Up itself":            fitting(5, impl.Node{Name: "c", Up: 5}),
		"Up behind":            fitting(5, impl.Node{Name: "c", Up: 6}),
		"Up the last":          fitting(0, impl.Node{Name: "c", Up: 7}),
		"Up none":              fitting(7, impl.Node{Name: "c", Up: 8}),
		"Up -2":                fitting(5, impl.Node{Name: "c", Up: -2}),
		"Up least":             fitting(5, impl.Node{Name: "c", Up: math.MinInt}),
		"Up most":              fitting(5, impl.Node{Name: "c", Up: math.MaxInt}),
		"names alike on top":   {{Name: "a", Up: -1}, {Name: "b", Up: -1}, {Name: "a", Up: -1}},
		"names alike below":    fitting(4, impl.Node{Name: "b", Up: 0}),
		"the last alike":       fitting(7, impl.Node{Name: "b", Up: 0, X: 9}),
	}
	for i, name := range badNames() {
		out[fmt.Sprint("no name ", i)] = fitting(7, impl.Node{Name: name, Up: 2})
		out[fmt.Sprint("no name first ", i)] = fitting(0, impl.Node{Name: name, Up: -1})
	}
	out["a name with a slash"] = []impl.Node{{Name: "a", Up: -1}, {Name: "a/b", Up: 0}}
	for i, s := range badSpots() {
		out[fmt.Sprint("no spot ", i)] = fitting(3, impl.Node{Name: "c", Up: 0, X: s.X, Y: s.Y, Turns: s.Turns, Flip: s.Flip})
		out[fmt.Sprint("no spot alone ", i)] = []impl.Node{{Name: "c", Up: -1, X: s.X, Y: s.Y, Turns: s.Turns, Flip: s.Flip}}
	}
	return out
}

func spotIn(n impl.Node) impl.Spot {
	return impl.Spot{X: n.X, Y: n.Y, Turns: n.Turns, Flip: n.Flip}
}

// slowGoodScene asks each node by itself, and each pair.
func slowGoodScene(l []impl.Node) bool {
	good := len(l) <= 40
	for i, n := range l {
		good = good && slowGoodName(n.Name) && -1 <= n.Up && n.Up <= i-1 && slowGoodSpot(spotIn(n))
		for _, other := range l[i+1:] {
			good = good && (other.Up != n.Up || other.Name != n.Name)
		}
	}
	return good
}

func TestGoodScene(t *testing.T) {
	for what, l := range goodScenes() {
		if got := purely(t, what, impl.GoodScene, l); got[0] != true || !slowGoodScene(l) {
			t.Errorf("%s: not good", what)
		}
	}
	for what, l := range badScenes() {
		if got := purely(t, what, impl.GoodScene, l); got[0] != false || slowGoodScene(l) {
			t.Errorf("%s: good", what)
		}
	}
	if !impl.GoodScene(nil) {
		t.Error("nothing is a good scene")
	}
}

// placeNumbers holds numbers on both sides of all limits of scenes.
func placeNumbers() []int {
	return []int{
		math.MinInt, -farPlace - 1, -farPlace, -5, -4, -2, -1, 0, 1, 2, 3, 4, 5, 6, 7, 8, 9, 39, 40, 41,
		farPlace - 1, farPlace, farPlace + 1, math.MaxInt,
	}
}

// One thing of a good scene is made another, at each node.
func TestGoodSceneWithOneThingChanged(t *testing.T) {
	ask := func(what string, at int, change func(n *impl.Node)) {
		l := smallScene()
		change(&l[at])
		if got, want := impl.GoodScene(l), slowGoodScene(l); got != want {
			t.Errorf("%s: %v, and it is %v: %v", what, got, want, l)
		}
	}
	for at := range smallScene() {
		for _, x := range placeNumbers() {
			ask("Up", at, func(n *impl.Node) { n.Up = x })
			ask("X", at, func(n *impl.Node) { n.X = x })
			ask("Y", at, func(n *impl.Node) { n.Y = x })
			ask("Turns", at, func(n *impl.Node) { n.Turns = x })
		}
		for _, name := range append(badNames(), "a", "b", "arm", "hand", "c", "B", longName) {
			ask("Name", at, func(n *impl.Node) { n.Name = name })
		}
		ask("Flip", at, func(n *impl.Node) { n.Flip = !n.Flip })
	}
}

// slowSpotOf joins from the top on, by places.
func slowSpotOf(l []impl.Node, at int) (impl.Spot, bool) {
	n := l[at]
	if n.Up == -1 {
		return spotIn(n), true
	}
	above, ok := slowSpotOf(l, n.Up)
	if !ok {
		return impl.Spot{}, false
	}
	return slowJoin(above, spotIn(n))
}

func TestSpotOfTold(t *testing.T) {
	for at, want := range []impl.Spot{
		{X: 10, Y: 20, Turns: 1},
		{X: 8, Y: 21, Turns: 1, Flip: true},
		{X: -5, Turns: 2, Flip: true},
		{X: 11, Y: 27, Turns: 0, Flip: true},
		{X: 6, Y: 20, Turns: 3},
		{X: 8, Y: 30, Turns: 3, Flip: true},
		{X: 14, Y: 22, Turns: 3, Flip: true},
		{X: 95, Y: 100, Turns: 1},
	} {
		what := fmt.Sprint("SpotOf ", at)
		wantSpot(t, what, purely(t, what, impl.SpotOf, smallScene(), at), want, true)
	}
	l := chain(impl.MaxNodes, 25000)
	wantSpot(t, "the last of a row", purely(t, "a row", impl.SpotOf, l, 39), impl.Spot{X: farPlace}, true)
	l[0].X++
	wantSpot(t, "one beyond", purely(t, "one beyond", impl.SpotOf, l, 39), impl.Spot{}, false)
	wantSpot(t, "ahead of it", purely(t, "ahead of it", impl.SpotOf, l, 38), impl.Spot{X: 975001}, true)
}

// What comes back within the limits below a spot that is none has none either; others do.
func TestSpotOfBelowOneThatIsNoGoodSpot(t *testing.T) {
	l := []impl.Node{
		{Name: "a", Up: -1, X: farPlace},
		{Name: "b", Up: 0, X: 1},
		{Name: "c", Up: 1, X: -1},
		{Name: "d", Up: 2, X: -farPlace},
		{Name: "e", Up: 0, X: -1},
		{Name: "f", Up: -1, X: 1},
	}
	for at, want := range map[int]impl.Spot{0: {X: farPlace}, 4: {X: farPlace - 1}, 5: {X: 1}} {
		wantSpot(t, l[at].Name, purely(t, l[at].Name, impl.SpotOf, l, at), want, true)
	}
	for _, at := range []int{1, 2, 3} {
		wantSpot(t, l[at].Name, purely(t, l[at].Name, impl.SpotOf, l, at), impl.Spot{}, false)
	}
	// Joined from below it would be good at each step: b and c together are nothing.
	m := []impl.Node{{Name: "a", Up: -1, Y: -farPlace}, {Name: "b", Up: 0, Y: -9}, {Name: "c", Up: 1, Y: 9}}
	wantSpot(t, "from the top on", purely(t, "from the top on", impl.SpotOf, m, 2), impl.Spot{}, false)
}

// coinScene makes a good scene out of coins, its places up to far.
func coinScene(seed int, far int) []impl.Node {
	row := coins(seed, 400)
	next := func(below int) int {
		c := row[0]<<15 | row[1]
		row = row[2:]
		return c >> 4 % below
	}
	var l []impl.Node
	for i := range next(impl.MaxNodes/2) + 2 {
		n := impl.Node{
			Name: fewNames[next(len(fewNames))], Up: max(-1, i-1-next(5)), X: next(2*far+1) - far, Y: next(2*far+1) - far,
			Turns: next(4), Flip: next(2) == 1,
		}
		if slowGoodScene(append(l, n)) {
			l = append(l, n)
			continue
		}
		n.Name = fmt.Sprintf("m%d", i)
		l = append(l, n)
	}
	return l
}

// sceneSpread holds scenes whose spots are all good, and such that go beyond the limits here and there.
func sceneSpread() [][]impl.Node {
	out := [][]impl.Node{smallScene(), chain(impl.MaxNodes, 30000), fan(12)}
	for seed := range 40 {
		out = append(out, coinScene(seed+1, []int{5, 1000, farPlace / 2, farPlace}[seed%4]))
	}
	return out
}

func TestSpotOfExactly(t *testing.T) {
	beyond := 0
	for _, l := range sceneSpread() {
		for at := range l {
			want, good := slowSpotOf(l, at)
			if !good {
				beyond++
			}
			what := fmt.Sprint("SpotOf ", at, l)
			wantSpot(t, what, purely(t, what, impl.SpotOf, l, at), want, good)
		}
	}
	if beyond == 0 {
		t.Error("no scene went beyond the limits")
	}
}

func wantScene(t *testing.T, what string, got []any, want []impl.Node, good bool) {
	t.Helper()
	if len(got) != 2 || !alike(got[0], want) || got[1] != good {
		t.Errorf("%s: %v, wanted %v with %v", what, got, want, good)
	}
}

func TestHangTold(t *testing.T) {
	for _, c := range []struct {
		what string
		at   int
		up   int
		then impl.Node
	}{
		{"on nothing", 6, -1, impl.Node{Name: "hand", Up: -1, X: 14, Y: 22, Turns: 3, Flip: true}},
		{"on the one above that above", 6, 0, impl.Node{Name: "hand", Up: 0, X: 2, Y: -4, Turns: 2, Flip: true}},
		{"on one that is turned and flipped", 6, 3, impl.Node{Name: "hand", Up: 3, X: -3, Y: -5, Turns: 1}},
		{"on one that is flipped", 6, 2, impl.Node{Name: "hand", Up: 2, X: 19, Y: -22, Turns: 3}},
		{"on one elsewhere", 7, 5, impl.Node{Name: "b", Up: 5, X: 70, Y: 87, Turns: 2, Flip: true}},
		{"one with others below it", 3, 1, impl.Node{Name: "arm", Up: 1, X: -6, Y: -3, Turns: 1}},
	} {
		then := fitting(c.at, c.then)
		wantScene(t, c.what, purely(t, c.what, impl.Hang, smallScene(), c.at, c.up), then, true)
	}
	for at, n := range smallScene() {
		what := fmt.Sprint("on the Up that it has ", at)
		wantScene(t, what, purely(t, what, impl.Hang, smallScene(), at, n.Up), smallScene(), true)
	}
}

func TestHangRefused(t *testing.T) {
	refused := func(what string, l []impl.Node, at int, up int) {
		t.Helper()
		wantScene(t, what, purely(t, what, impl.Hang, l, at, up), nil, false)
	}
	refused("a name that there is on top", smallScene(), 1, -1)
	refused("a name that there is below", smallScene(), 5, 0)
	refused("a name that comes behind", []impl.Node{{Name: "a", Up: -1}, {Name: "b", Up: 0}, {Name: "b", Up: -1}}, 1, -1)
	for at := range smallScene() {
		for _, up := range append(placeNumbers(), at, at+1) {
			if up < -1 || up >= at {
				refused(fmt.Sprint("up not ahead ", at, up), smallScene(), at, up)
			}
		}
	}
	apart := []impl.Node{{Name: "a", Up: -1, X: -farPlace}, {Name: "b", Up: -1, X: 1}, {Name: "c", Up: -1, X: 0}, {Name: "d", Up: -1, Y: farPlace}}
	refused("its own spot beyond", apart, 1, 0)
	wantScene(t, "its own spot at the limit", purely(t, "at the limit", impl.Hang, apart, 2, 0),
		[]impl.Node{apart[0], apart[1], {Name: "c", Up: 0, X: farPlace}, apart[3]}, true)
	refused("its own spot beyond by a way back", []impl.Node{{Name: "a", Up: -1, Y: -1, Turns: 1}, {Name: "b", Up: -1, Y: farPlace}}, 1, 0)

	far := []impl.Node{
		{Name: "a", Up: -1, X: farPlace}, {Name: "b", Up: 0, X: 1}, {Name: "c", Up: 1, X: -1}, {Name: "d", Up: 0}, {Name: "e", Up: -1},
	}
	refused("its SpotOf is none", far, 1, -1)
	refused("its SpotOf is none, on the Up that it has", far, 1, 0)
	refused("its SpotOf goes over one that is none", far, 2, 0)
	refused("SpotOf up is none", far, 3, 1)
	refused("SpotOf up goes over one that is none", far, 4, 2)
	wantScene(t, "beside them", purely(t, "beside them", impl.Hang, far, 3, -1), []impl.Node{far[0], far[1], far[2], {Name: "d", Up: -1, X: farPlace}, far[4]}, true)
}

// slowHang finds the spot of its own by the places that it must go through.
func slowHang(l []impl.Node, at int, up int) ([]impl.Node, bool) {
	stands, ok := slowSpotOf(l, at)
	ground, groundOk := impl.Spot{}, true
	if up != -1 {
		ground, groundOk = slowSpotOf(l, up)
	}
	if !ok || !groundOk {
		return nil, false
	}
	own := spotThrough(func(p place) place { return takenBack(ground, standsAt(stands, p)) })
	then := slices.Clone(l)
	then[at] = impl.Node{Name: l[at].Name, Up: up, X: own.X, Y: own.Y, Turns: own.Turns, Flip: own.Flip}
	if !slowGoodScene(then) {
		return nil, false
	}
	return then, true
}

// Promise 4: what is hung elsewhere stands where it stood, and so does all that hangs on it.
func TestWhatIsHungElsewhereStandsWhereItStood(t *testing.T) {
	hung, refused := 0, 0
	for _, l := range sceneSpread() {
		for at := range l {
			for up := -1; up < at; up++ {
				what := fmt.Sprint("Hang ", at, " on ", up, " ", l)
				want, good := slowHang(l, at, up)
				got := purely(t, what, impl.Hang, l, at, up)
				wantScene(t, what, got, want, good)
				if !good {
					refused++
					continue
				}
				hung++
				then := got[0].([]impl.Node)
				for i := range l {
					was, wasOk := impl.SpotOf(l, i)
					is, isOk := impl.SpotOf(then, i)
					if was != is || wasOk != isOk {
						t.Fatalf("%s: %d stood %v, stands %v", what, i, was, is)
					}
				}
				wantScene(t, what+", and back", purely(t, what, impl.Hang, then, at, l[at].Up), l, true)
			}
		}
	}
	if hung == 0 || refused == 0 {
		t.Error("hung", hung, "refused", refused)
	}
}

func TestCutNodeTold(t *testing.T) {
	l := smallScene()
	with := func(n impl.Node, up int) impl.Node {
		n.Up = up
		return n
	}
	for at, want := range [][]impl.Node{
		{with(l[2], -1), with(l[7], 0)},
		{l[0], l[2], l[3], l[4], with(l[5], 2), with(l[6], 3), with(l[7], 1)},
		{l[0], l[1], with(l[3], 0), with(l[4], 0), with(l[5], 2), with(l[6], 3)},
		{l[0], l[1], l[2], l[4], with(l[6], 3), l[7]},
		{l[0], l[1], l[2], l[3], l[5], l[7]},
		{l[0], l[1], l[2], l[3], l[4], l[6], l[7]},
		{l[0], l[1], l[2], l[3], l[4], l[5], l[7]},
		{l[0], l[1], l[2], l[3], l[4], l[5], l[6]},
	} {
		what := fmt.Sprint("CutNode ", at)
		wantScene(t, what, purely(t, what, impl.CutNode, smallScene(), at), want, true)
	}
	row, beside := chain(impl.MaxNodes, 30000), fan(impl.MaxNodes)
	for at := range impl.MaxNodes {
		wantScene(t, "a row", purely(t, "a row", impl.CutNode, row, at), row[:at], true)
		wantScene(t, "beside", purely(t, "beside", impl.CutNode, beside, at), slices.Concat(beside[:at], beside[at+1:]), true)
	}
}

func slowPath(l []impl.Node, at int) string {
	if l[at].Up == -1 {
		return l[at].Name
	}
	return slowPath(l, l[at].Up) + "/" + l[at].Name
}

// slowCut leaves the nodes whose path does not lead over the one that goes, and finds the Ups by their paths.
func slowCut(l []impl.Node, at int) []impl.Node {
	var out []impl.Node
	numbers := map[string]int{}
	for i, n := range l {
		path := slowPath(l, i)
		if strings.HasPrefix(path+"/", slowPath(l, at)+"/") {
			continue
		}
		if n.Up != -1 {
			n.Up = numbers[slowPath(l, n.Up)]
		}
		numbers[path] = len(out)
		out = append(out, n)
	}
	return out
}

func TestCutNodeExactly(t *testing.T) {
	for _, l := range sceneSpread() {
		for at := range l {
			what := fmt.Sprint("CutNode ", at, l)
			got := purely(t, what, impl.CutNode, l, at)
			wantScene(t, what, got, slowCut(l, at), true)
			then := got[0].([]impl.Node)
			if !impl.GoodScene(then) || impl.FindNode(then, slowPath(l, at)) != -1 {
				t.Fatalf("%s: %v", what, then)
			}
			for i := range then {
				was := impl.FindNode(l, impl.PathOf(then, i))
				if was < 0 {
					t.Fatalf("%s: %d was not there", what, i)
				}
				stood, ok := impl.SpotOf(l, was)
				wantSpot(t, what, purely(t, what, impl.SpotOf, then, i), stood, ok)
			}
		}
	}
}

func TestPathsTold(t *testing.T) {
	paths := []string{"a", "a/b", "b", "a/arm", "a/a", "a/arm/b", "a/a/hand", "b/b"}
	for at, path := range paths {
		if got := purely(t, path, impl.PathOf, smallScene(), at); got[0] != path {
			t.Errorf("PathOf %d: %v, not %s", at, got, path)
		}
		if got := purely(t, path, impl.FindNode, smallScene(), path); got[0] != at {
			t.Errorf("FindNode %s: %v, not %d", path, got, at)
		}
	}
	none := []string{
		"", "/", "//", "c", "arm", "hand", "A", "ab", "a/", "/a", "/a/b", "a/b/", "a//b", "a/b/b", "a/b/c", "a/hand", "a/a/hand/a",
		"b/a", "b/b/b", "a b", " a", "a ", "a\x00", "a\\b", "a/ar", "a/arms", "a/a/han", "a/./b", strings.Repeat("a/", 50), strings.Repeat("a", 1<<20),
	}
	for _, path := range none {
		if got := purely(t, "none", impl.FindNode, smallScene(), path); got[0] != -1 {
			t.Errorf("FindNode %q: %v", path, got)
		}
		if got := purely(t, "none", impl.FindNode, []impl.Node{}, path); got[0] != -1 {
			t.Errorf("FindNode %q in nothing: %v", path, got)
		}
	}
	if got := impl.FindNode(nil, "a"); got != -1 {
		t.Error("FindNode in nothing", got)
	}
}

// Each node comes back from its path, names of any length and rows of any depth with them.
func TestNodesComeBackFromTheirPaths(t *testing.T) {
	scenes := sceneSpread()
	for _, l := range goodScenes() {
		scenes = append(scenes, l)
	}
	deep := chain(impl.MaxNodes, 0)
	for i := range deep {
		deep[i].Name = longName
	}
	for _, l := range append(scenes, deep) {
		for at := range l {
			path := impl.PathOf(l, at)
			if want := slowPath(l, at); path != want {
				t.Fatalf("PathOf %d of %v: %q, not %q", at, l, path, want)
			}
			if got := impl.FindNode(l, path); got != at {
				t.Fatalf("FindNode %q of %v: %d, not %d", path, l, got, at)
			}
		}
	}
	if got := len(impl.PathOf(deep, 39)); got != 40*20+39 {
		t.Error("the longest path", got)
	}
}

// wantNothing asks for the one answer that all functions of a scene give where it, or the node, is not as said.
func wantNothing(t *testing.T, what string, l []impl.Node, at int) {
	t.Helper()
	wantSpot(t, what, purely(t, what, impl.SpotOf, l, at), impl.Spot{}, false)
	wantScene(t, what, purely(t, what, impl.CutNode, l, at), nil, false)
	for _, up := range []int{-1, 0, at - 1} {
		wantScene(t, what, purely(t, what, impl.Hang, l, at, up), nil, false)
	}
	if got := purely(t, what, impl.PathOf, l, at); got[0] != "" {
		t.Errorf("%s: PathOf %v", what, got)
	}
}

func TestScenesThatAreNotGoodGiveNothing(t *testing.T) {
	for what, l := range badScenes() {
		for _, at := range []int{-1, 0, 1, 3, 7, len(l) - 1, len(l), math.MaxInt, math.MinInt} {
			wantNothing(t, what, l, at)
		}
		for _, path := range []string{"", "a", "c", "n0", "a/b", "n0/n1", l[0].Name, l[len(l)-1].Name} {
			if got := purely(t, what, impl.FindNode, l, path); got[0] != -1 {
				t.Errorf("%s: FindNode %q: %v", what, path, got)
			}
		}
	}
}

func TestNumbersOfNoNodeGiveNothing(t *testing.T) {
	for what, l := range goodScenes() {
		for _, at := range append(placeNumbers(), len(l), len(l)+1) {
			if at < 0 || at >= len(l) {
				wantNothing(t, what, l, at)
			}
		}
	}
}

// Promise 29: nodes of any numbers and texts; what is answered is what the document says of them.
func TestScenesAnswerAtAnyArguments(t *testing.T) {
	numbers, names := placeNumbers(), append(badNames(), "a", "b", "ab", longName)
	good := 0
	for seed := range 300 {
		row := coins(seed+1, 100)
		next := func(below int) int {
			c := row[0] >> 3 % below
			row = row[1:]
			return c
		}
		var l []impl.Node
		for range next(7) {
			n := impl.Node{Name: "a", Up: -1}
			switch next(8) {
			case 0:
				n = impl.Node{Name: "b", Up: numbers[next(len(numbers))], X: numbers[next(len(numbers))], Turns: numbers[next(len(numbers))]}
			case 1:
				n.Name = names[next(len(names))]
			default:
				n = impl.Node{Name: fmt.Sprint("n", len(l)), Up: len(l) - 1, Y: farPlace, Turns: next(4), Flip: next(2) == 0}
			}
			l = append(l, n)
		}
		at, up := numbers[next(len(numbers))], numbers[next(len(numbers))]
		isGood := slowGoodScene(l)
		if got := purely(t, "GoodScene", impl.GoodScene, l); got[0] != isGood {
			t.Fatalf("GoodScene %v: %v", l, got)
		}
		if !isGood || at < 0 || at >= len(l) {
			wantNothing(t, fmt.Sprint(at, l), l, at)
			continue
		}
		good++
		stands, ok := slowSpotOf(l, at)
		wantSpot(t, "SpotOf", purely(t, "SpotOf", impl.SpotOf, l, at), stands, ok)
		wantScene(t, "CutNode", purely(t, "CutNode", impl.CutNode, l, at), slowCut(l, at), true)
		var then []impl.Node
		hangs := false
		if -1 <= up && up < at {
			then, hangs = slowHang(l, at, up)
		}
		wantScene(t, "Hang", purely(t, "Hang", impl.Hang, l, at, up), then, hangs)
	}
	if good == 0 {
		t.Error("no scene of any kind was good")
	}
}

package tests

import (
	"fmt"
	"math"
	"math/big"
	"slices"
	"testing"

	"loop.example/g00064/impl"
)

const mostBodies = 20
const mostMass = 12
const mostPush = 1000000
const farLine = 1000000000
const mostReach = 1000
const mostRounds = 50
const mostMove = 1000
const mostTies = 200
const mostLines = 20

func body(x int, p int, m int, r int) impl.Body { return impl.Body{X: x, P: p, M: m, R: r} }

func wall(x int, r int) impl.Body { return impl.Body{X: x, R: r} }

func bodies(l ...impl.Body) []impl.Body { return l }

// touchingBodies gives bodies of one mass side by side, with these pushes.
func touchingBodies(mass int, pushes ...int) []impl.Body {
	var out []impl.Body
	for i, p := range pushes {
		out = append(out, body(2*i, p, mass, 1))
	}
	return out
}

// manyBodies gives so many bodies that touch, the first of which pushes.
func manyBodies(many int) []impl.Body {
	l := touchingBodies(1, make([]int, many)...)
	if many > 0 {
		l[0].P = 7
	}
	return l
}

func onesPushes(l []impl.Body) []int {
	var out []int
	for _, b := range l {
		out = append(out, b.P)
	}
	return out
}

func onesPlaces(l []impl.Body) []int {
	var out []int
	for _, b := range l {
		out = append(out, b.X)
	}
	return out
}

func withPushes(l []impl.Body, pushes ...int) []impl.Body {
	out := slices.Clone(l)
	for i, p := range pushes {
		out[i].P = p
	}
	return out
}

func withPlaces(l []impl.Body, places ...int) []impl.Body {
	out := slices.Clone(l)
	for i, x := range places {
		out[i].X = x
	}
	return out
}

// goodBodies holds bodies at each limit that the document names.
func goodBodies() map[string]impl.Body {
	return map[string]impl.Body{
		"a body":               body(5, -7, 3, 2),
		"the least X":          body(-farLine, 1, 1, 1),
		"the greatest X":       body(farLine, 1, 1, 1),
		"the least P":          body(0, -mostPush, 1, 1),
		"the greatest P":       body(0, mostPush, 1, 1),
		"P of 0":               body(0, 0, 1, 1),
		"M of 1":               body(0, 3, 1, 1),
		"the greatest M":       body(0, 3, mostMass, 1),
		"a wall":               wall(4, 1),
		"a wall at the end":    wall(-farLine, mostReach),
		"a wall, the other":    wall(farLine, mostReach),
		"R of 1":               body(0, 3, 2, 1),
		"the greatest R":       body(0, 3, 2, mostReach),
		"all at their most":    body(farLine, mostPush, mostMass, mostReach),
		"all at their least":   body(-farLine, -mostPush, 1, 1),
		"all that may be 0 is": body(0, 0, 0, 1),
	}
}

// badBodies holds bodies that are not good, in each way that the document names.
func badBodies() map[string]impl.Body {
	out := map[string]impl.Body{
		"nothing":                 {},
		"a wall that pushes":      body(0, 1, 0, 1),
		"a wall that pushes back": body(0, -1, 0, 1),
		"a wall, the greatest P":  body(0, mostPush, 0, 1),
	}
	for _, off := range []int{-farLine - 1, farLine + 1, math.MinInt, math.MaxInt, math.MinInt + 1} {
		out[fmt.Sprint("X ", off)] = body(off, 1, 1, 1)
		out[fmt.Sprint("a wall, X ", off)] = wall(off, 1)
	}
	for _, off := range []int{-mostPush - 1, mostPush + 1, math.MinInt, math.MaxInt, 1 << 32} {
		out[fmt.Sprint("P ", off)] = body(0, off, 1, 1)
		out[fmt.Sprint("a wall, P ", off)] = body(0, off, 0, 1)
	}
	for _, off := range []int{-1, -mostMass, mostMass + 1, math.MinInt, math.MaxInt, 1 << 32} {
		out[fmt.Sprint("M ", off)] = body(0, 1, off, 1)
		out[fmt.Sprint("standing, M ", off)] = body(0, 0, off, 1)
	}
	for _, off := range []int{0, -1, -mostReach, mostReach + 1, math.MinInt, math.MaxInt, 1<<32 + 1} {
		out[fmt.Sprint("R ", off)] = body(0, 1, 1, off)
		out[fmt.Sprint("a wall, R ", off)] = wall(0, off)
	}
	return out
}

func goodLines() map[string][]impl.Body {
	out := map[string][]impl.Body{
		"no body":           nil,
		"all of them":       manyBodies(mostBodies),
		"walls alone":       bodies(wall(-9, 3), wall(-3, 3), wall(40, 5)),
		"just touch":        bodies(body(0, 5, 1, 3), body(7, -5, 2, 4)),
		"one apart":         bodies(body(0, 5, 1, 3), body(8, -5, 2, 4)),
		"from end to end":   bodies(body(-farLine, 5, 1, 3), wall(0, mostReach), body(farLine, -5, 2, mostReach)),
		"the greatest ones": bodies(body(-1000, 5, 1, mostReach), body(1000, 5, 1, mostReach), wall(3000, mostReach)),
	}
	for what, b := range goodBodies() {
		out["alone: "+what] = bodies(b)
	}
	return out
}

// badLinesOfBodies holds lines that are not good, in each way that the document names.
func badLinesOfBodies() map[string][]impl.Body {
	out := map[string][]impl.Body{
		"one too many":         manyBodies(mostBodies + 1),
		"far too many":         manyBodies(3 * mostBodies),
		"in one another":       bodies(body(0, 5, 1, 3), body(6, -5, 2, 4)),
		"walls in one another": bodies(wall(0, 3), wall(6, 4)),
		"a wall in a body":     bodies(body(0, 5, 1, 3), wall(6, 4)),
		"one place":            bodies(body(0, 0, 1, 1), body(0, 0, 1, 1)),
		"the wrong way round":  bodies(body(10, 0, 1, 1), body(0, 0, 1, 1)),
		"the last ones":        bodies(body(0, 0, 1, 1), body(5, 0, 1, 1), body(6, 0, 1, 1)),
		"the first ones":       bodies(body(4, 0, 1, 1), body(5, 0, 1, 1), body(9, 0, 1, 1)),
	}
	for what, b := range badBodies() {
		out["alone: "+what] = bodies(b)
		out["first: "+what] = bodies(b, body(farLine, 0, 1, 1))
		out["last: "+what] = bodies(body(-farLine, 0, 1, 1), wall(-5000, 1), b)
	}
	return out
}

func slowGoodBody(b impl.Body) bool {
	within := func(n int, least int, most int) bool {
		for _, end := range [][2]int{{n, least}, {most, n}} {
			if big.NewInt(int64(end[0])).Cmp(big.NewInt(int64(end[1]))) < 0 {
				return false
			}
		}
		return true
	}
	if !within(b.X, -farLine, farLine) || !within(b.P, -mostPush, mostPush) || !within(b.R, 1, mostReach) {
		return false
	}
	return within(b.M, 1, mostMass) || b.M == 0 && b.P == 0
}

func slowGoodBodies(l []impl.Body) bool {
	for i, b := range l {
		if !slowGoodBody(b) || i > 0 && b.X-l[i-1].X < b.R+l[i-1].R {
			return false
		}
	}
	return len(l) <= mostBodies
}

func slowBook(l []impl.Body) (impl.Book, bool) {
	if !slowGoodBodies(l) {
		return impl.Book{}, false
	}
	push, energy := new(big.Int), new(big.Rat)
	for _, b := range l {
		push.Add(push, big.NewInt(int64(b.P)))
		if b.M > 0 {
			p := big.NewInt(int64(b.P))
			energy.Add(energy, new(big.Rat).SetFrac(p.Mul(p, p), big.NewInt(int64(2*b.M))))
		}
	}
	return impl.Book{Push: int(push.Int64()), Num: int(energy.Num().Int64()), Den: int(energy.Denom().Int64())}, true
}

// slowSpeed tells P / M, 0 for a wall.
func slowSpeed(b impl.Body) *big.Rat {
	if b.M == 0 {
		return new(big.Rat)
	}
	return big.NewRat(int64(b.P), int64(b.M))
}

// cutOff gives the whole part of a fraction, towards 0.
func cutOff(n *big.Rat) int { return int(new(big.Int).Quo(n.Num(), n.Denom()).Int64()) }

// slowPush reckons by speeds: what comes nearer is stopped by the push of the speed that both have
// together over what 1 / M of both is together, and bounce makes that push more.
func slowPush(a impl.Body, b impl.Body, bounce int) (impl.Body, impl.Body, bool) {
	if !slowGoodBodies(bodies(a, b)) || bounce < 0 || bounce > 100 {
		return impl.Body{}, impl.Body{}, false
	}
	nearer := new(big.Rat).Sub(slowSpeed(a), slowSpeed(b))
	if b.X-a.X > a.R+b.R || nearer.Sign() <= 0 {
		return a, b, true
	}
	ease := new(big.Rat)
	for _, c := range bodies(a, b) {
		if c.M > 0 {
			ease.Add(ease, big.NewRat(1, int64(c.M)))
		}
	}
	push := new(big.Rat).Quo(nearer, ease)
	j := cutOff(push.Mul(push, big.NewRat(int64(100+bounce), 100)))
	if a.M > 0 {
		a.P -= j
	}
	if b.M > 0 {
		b.P += j
	}
	if !slowGoodBody(a) || !slowGoodBody(b) {
		return impl.Body{}, impl.Body{}, false
	}
	return a, b, true
}

func slowPushLine(l []impl.Body, bounce int, rounds int) ([]impl.Body, bool) {
	if !slowGoodBodies(l) || bounce < 0 || bounce > 100 || rounds < 0 || rounds > mostRounds {
		return nil, false
	}
	out := slices.Clone(l)
	for turn := range rounds * len(l) {
		at := turn % len(l)
		if at+1 == len(l) {
			continue
		}
		good := true
		if out[at], out[at+1], good = slowPush(out[at], out[at+1], bounce); !good {
			return nil, false
		}
	}
	return out, true
}

// slowMoveLine asks of each body all that could hold it: those ahead of it back to the last wall,
// each where it wants to be, and then those behind it up to the next wall.
func slowMoveLine(l []impl.Body, time int) ([]impl.Body, bool) {
	if !slowGoodBodies(l) || time < 0 || time > mostMove {
		return nil, false
	}
	wants := onesPlaces(l)
	for i, b := range l {
		wants[i] += cutOff(new(big.Rat).Mul(slowSpeed(b), big.NewRat(int64(time), 1)))
	}
	// room is what lies between the middles of two of them if all between them touch.
	room := func(from int, to int) int {
		wide := l[from].R + l[to].R
		for _, b := range l[from+1 : max(from+1, to)] {
			wide += 2 * b.R
		}
		return wide
	}
	laid := slices.Clone(wants)
	for i := range l {
		for j := i - 1; j >= 0 && l[i].M > 0; j-- {
			laid[i] = max(laid[i], wants[j]+room(j, i))
			if l[j].M == 0 {
				break
			}
		}
	}
	out := withPlaces(l, laid...)
	for i := range l {
		for j := i + 1; j < len(l) && l[i].M > 0; j++ {
			out[i].X = min(out[i].X, laid[j]-room(i, j))
			if l[j].M == 0 {
				break
			}
		}
	}
	if !slowGoodBodies(out) {
		return nil, false
	}
	return out, true
}

func slowStepLine(l []impl.Body, bounce int, rounds int, time int) ([]impl.Body, bool) {
	pushed, good := slowPushLine(l, bounce, rounds)
	if !good {
		return nil, false
	}
	return slowMoveLine(pushed, time)
}

// slowIslands asks for each two things whether a way of ties leads from one to the other.
func slowIslands(many int, ties []impl.Pair) ([][]int, bool) {
	if many < 0 || many > mostShapes || len(ties) > mostTies {
		return nil, false
	}
	var reached [mostShapes][mostShapes]bool
	for i := range many {
		reached[i][i] = true
	}
	for _, tie := range ties {
		if !slices.Contains(counted(many), tie.A) || !slices.Contains(counted(many), tie.B) || tie.A >= tie.B {
			return nil, false
		}
		reached[tie.A][tie.B], reached[tie.B][tie.A] = true, true
	}
	for over := range many {
		for from := range many {
			for to := range many {
				reached[from][to] = reached[from][to] || reached[from][over] && reached[over][to]
			}
		}
	}
	var out [][]int
	for from := range many {
		island := slices.DeleteFunc(counted(many), func(to int) bool { return !reached[from][to] })
		if island[0] == from {
			out = append(out, island)
		}
	}
	return out, true
}

func wantBook(t *testing.T, what string, l []impl.Body, want impl.Book, good bool) {
	t.Helper()
	if got := purely(t, "BookOf", impl.BookOf, l); got[0] != want || got[1] != good {
		t.Errorf("%s: BookOf %v = %v, want %v, %v", what, l, got, want, good)
	}
}

func wantPush(t *testing.T, what string, a impl.Body, b impl.Body, bounce int, c impl.Body, d impl.Body, good bool) {
	t.Helper()
	if got := purely(t, "PushPair", impl.PushPair, a, b, bounce); got[0] != c || got[1] != d || got[2] != good {
		t.Errorf("%s: PushPair %v, %v, %d = %v, want %v, %v, %v", what, a, b, bounce, got, c, d, good)
	}
}

func wantPushLine(t *testing.T, what string, l []impl.Body, bounce int, rounds int, want []impl.Body, good bool) {
	t.Helper()
	got := purely(t, "PushLine", impl.PushLine, l, bounce, rounds)
	if !alike(got[0], want) || got[1] != good {
		t.Errorf("%s: PushLine %v, %d, %d = %v, want %v, %v", what, l, bounce, rounds, got, want, good)
	}
}

func wantMove(t *testing.T, what string, l []impl.Body, time int, want []impl.Body, good bool) {
	t.Helper()
	got := purely(t, "MoveLine", impl.MoveLine, l, time)
	if !alike(got[0], want) || got[1] != good {
		t.Errorf("%s: MoveLine %v, %d = %v, want %v, %v", what, l, time, got, want, good)
	}
}

func wantStep(t *testing.T, what string, l []impl.Body, bounce int, rounds int, time int, want []impl.Body, good bool) {
	t.Helper()
	got := purely(t, "StepLine", impl.StepLine, l, bounce, rounds, time)
	if !alike(got[0], want) || got[1] != good {
		t.Errorf("%s: StepLine %v, %d, %d, %d = %v, want %v, %v", what, l, bounce, rounds, time, got, want, good)
	}
}

func wantIslands(t *testing.T, what string, many int, ties []impl.Pair, want [][]int, good bool) {
	t.Helper()
	got := purely(t, "IslandsOf", impl.IslandsOf, many, ties)
	if !alike(got[0], want) || got[1] != good {
		t.Errorf("%s: IslandsOf %d, %v = %v, want %v, %v", what, many, ties, got, want, good)
	}
}

func wantSteps(t *testing.T, what string, l [][]impl.Body, bounce int, rounds int, time int, want [][]impl.Body, good bool) {
	t.Helper()
	got := purely(t, "StepIslands", impl.StepIslands, l, bounce, rounds, time)
	if !alike(got[0], want) || got[1] != good {
		t.Errorf("%s: StepIslands %v, %d, %d, %d = %v, want %v, %v", what, l, bounce, rounds, time, got, want, good)
	}
}

func TestPushConstants(t *testing.T) {
	got := [5]int{impl.MaxBodies, impl.MaxMass, impl.MaxPush, impl.MaxFar, impl.Bounce}
	if got != [5]int{mostBodies, mostMass, mostPush, farLine, 100} {
		t.Error(got)
	}
}

func TestGoodLine(t *testing.T) {
	for what, l := range goodLines() {
		if !slowGoodBodies(l) || purely(t, what, impl.GoodLine, l)[0] != true {
			t.Error(what, l, "is not good")
		}
	}
	for what, l := range badLinesOfBodies() {
		if slowGoodBodies(l) || purely(t, what, impl.GoodLine, l)[0] != false {
			t.Error(what, l, "is good")
		}
	}
}

func TestBook(t *testing.T) {
	masses := bodies()
	for m := 1; m <= mostMass; m++ {
		masses = append(masses, body(2*m, 1, m, 1))
	}
	fullest := bodies()
	for i := range mostBodies {
		fullest = append(fullest, body(2*i, mostPush, 1, 1))
	}
	told := []struct {
		what string
		l    []impl.Body
		want impl.Book
	}{
		{"no body", nil, impl.Book{Den: 1}},
		{"a wall", bodies(wall(4, 2)), impl.Book{Den: 1}},
		{"walls alone", bodies(wall(4, 2), wall(8, 2), wall(20, 3)), impl.Book{Den: 1}},
		{"one that stands still", bodies(body(0, 0, 7, 1)), impl.Book{Den: 1}},
		{"a whole number", bodies(body(0, 10, 1, 1)), impl.Book{Push: 10, Num: 50, Den: 1}},
		{"a half", bodies(body(0, 10, 4, 1)), impl.Book{Push: 10, Num: 25, Den: 2}},
		{"without a divisor at first", bodies(body(0, -5, 7, 1)), impl.Book{Push: -5, Num: 25, Den: 14}},
		{"with a divisor at first", bodies(body(0, 6, 12, 1)), impl.Book{Push: 6, Num: 3, Den: 2}},
		{"two that go apart", bodies(body(0, -3, 1, 1), body(2, 3, 1, 1)), impl.Book{Num: 9, Den: 1}},
		{"halves that make a whole", bodies(body(0, 1, 1, 1), body(2, 1, 1, 1)), impl.Book{Push: 2, Num: 1, Den: 1}},
		{"a third and a sixth", bodies(body(0, 2, 6, 1), body(2, 1, 3, 1)), impl.Book{Push: 3, Num: 1, Den: 2}},
		{"a wall between", bodies(body(0, 4, 5, 1), wall(9, 1), body(20, -9, 11, 1)), impl.Book{Push: -5, Num: 581, Den: 110}},
		{"each mass", masses, impl.Book{Push: 12, Num: 86021, Den: 55440}},
		{"the most", fullest, impl.Book{Push: 20 * mostPush, Num: 10000000000000, Den: 1}},
	}
	for _, c := range told {
		if want, good := slowBook(c.l); !good || want != c.want {
			t.Error(c.what, "is told wrongly:", c.want, "and", want)
		}
		wantBook(t, c.what, c.l, c.want, true)
	}
	// The greatest num: each den is in it, and all else is at its most.
	uneven := slices.Clone(fullest)
	for i, m := range []int{7, 8, 9, 11, 5} {
		uneven[i].M, uneven[i].P = m, mostPush-1
	}
	want, _ := slowBook(uneven)
	wantBook(t, "the most, uneven", uneven, want, true)
	for what, l := range badLinesOfBodies() {
		wantBook(t, what, l, impl.Book{}, false)
	}
}

// pushCase tells of two that meet: P and M of a, of b, bounce, and both P then.
type pushCase struct {
	what   string
	a      [2]int
	b      [2]int
	bounce int
	want   [2]int
}

func pushCases() []pushCase {
	const most = mostPush
	return []pushCase{
		{"one is hit, all back", [2]int{10, 1}, [2]int{0, 1}, 100, [2]int{0, 10}},
		{"one is hit, nothing back", [2]int{10, 1}, [2]int{0, 1}, 0, [2]int{5, 5}},
		{"one is hit, half back, cut", [2]int{10, 1}, [2]int{0, 1}, 50, [2]int{3, 7}},
		{"one hundredth back", [2]int{100, 1}, [2]int{0, 1}, 1, [2]int{50, 50}},
		{"one hundredth back, seen", [2]int{200, 1}, [2]int{0, 1}, 1, [2]int{99, 101}},
		{"ninety-nine back", [2]int{200, 1}, [2]int{0, 1}, 99, [2]int{1, 199}},
		{"both come, all back", [2]int{3, 2}, [2]int{-5, 3}, 100, [2]int{-4, 2}},
		{"both come, nothing back", [2]int{3, 2}, [2]int{-5, 3}, 0, [2]int{0, -2}},
		{"a heavy one hits", [2]int{12, 12}, [2]int{0, 1}, 100, [2]int{11, 1}},
		{"a light one hits", [2]int{12, 1}, [2]int{0, 12}, 100, [2]int{-10, 22}},
		{"one catches up", [2]int{30, 1}, [2]int{50, 2}, 100, [2]int{24, 56}},
		{"one catches up, nothing back", [2]int{30, 1}, [2]int{50, 2}, 0, [2]int{27, 53}},
		{"both go left", [2]int{-2, 1}, [2]int{-9, 3}, 100, [2]int{-3, -8}},
		{"a push less than one", [2]int{1, 12}, [2]int{0, 12}, 0, [2]int{1, 0}},
		{"a push of one", [2]int{1, 12}, [2]int{0, 12}, 100, [2]int{0, 1}},
		{"a push less than one, as they come", [2]int{3, 1}, [2]int{5, 2}, 100, [2]int{3, 5}},
		{"they go apart", [2]int{-1, 1}, [2]int{1, 1}, 100, [2]int{-1, 1}},
		{"they go apart, both to the right", [2]int{50, 2}, [2]int{30, 1}, 100, [2]int{50, 30}},
		{"they go alike", [2]int{2, 1}, [2]int{4, 2}, 100, [2]int{2, 4}},
		{"they go alike to the left", [2]int{-9, 3}, [2]int{-30, 10}, 100, [2]int{-9, -30}},
		{"they stand", [2]int{0, 1}, [2]int{0, 5}, 100, [2]int{0, 0}},
		{"more push, less speed", [2]int{5, 10}, [2]int{1, 1}, 100, [2]int{5, 1}},
		{"less push, more speed", [2]int{10, 1}, [2]int{50, 10}, 100, [2]int{1, 59}},
		{"a wall on the right, nothing back", [2]int{7, 5}, [2]int{0, 0}, 0, [2]int{0, 0}},
		{"a wall on the right, half back, cut", [2]int{7, 5}, [2]int{0, 0}, 50, [2]int{-3, 0}},
		{"a wall on the right, all back", [2]int{7, 5}, [2]int{0, 0}, 100, [2]int{-7, 0}},
		{"a wall on the right, it goes away", [2]int{-7, 5}, [2]int{0, 0}, 100, [2]int{-7, 0}},
		{"a wall on the right, it stands", [2]int{0, 5}, [2]int{0, 0}, 100, [2]int{0, 0}},
		{"a wall on the left, nothing back", [2]int{0, 0}, [2]int{-7, 5}, 0, [2]int{0, 0}},
		{"a wall on the left, half back, cut", [2]int{0, 0}, [2]int{-7, 5}, 50, [2]int{0, 3}},
		{"a wall on the left, all back", [2]int{0, 0}, [2]int{-7, 5}, 100, [2]int{0, 7}},
		{"a wall on the left, it goes away", [2]int{0, 0}, [2]int{7, 5}, 100, [2]int{0, 7}},
		{"walls", [2]int{0, 0}, [2]int{0, 0}, 100, [2]int{0, 0}},
		{"the most against a wall", [2]int{most, 12}, [2]int{0, 0}, 100, [2]int{-most, 0}},
		{"the most against the most", [2]int{most, 1}, [2]int{-most, 1}, 100, [2]int{-most, most}},
		{"the most against more mass", [2]int{most, 1}, [2]int{-most, 12}, 100, [2]int{-most, most}},
		{"just to the most", [2]int{most, 1}, [2]int{0, 2}, 50, [2]int{0, most}},
		{"just to the most, one less and one more", [2]int{most - 1, 1}, [2]int{2, 2}, 50, [2]int{1, most}},
		{"far to the least", [2]int{0, 2}, [2]int{-most, 1}, 50, [2]int{-most, 0}},
	}
}

func TestPushPair(t *testing.T) {
	for _, c := range pushCases() {
		for _, r := range [][3]int{{0, 1, 1}, {-500, 3, 40}, {farLine - 2*mostReach, mostReach, mostReach}, {-farLine, 1, mostReach}} {
			a, b := body(r[0], c.a[0], c.a[1], r[1]), body(r[0]+r[1]+r[2], c.b[0], c.b[1], r[2])
			x, y := a, b
			x.P, y.P = c.want[0], c.want[1]
			if c, d, good := slowPush(a, b, c.bounce); !good || c != x || d != y {
				t.Error(a, b, "is told wrongly:", x, y, "and", c, d)
			}
			wantPush(t, c.what, a, b, c.bounce, x, y, true)
			mirror := func(b impl.Body) impl.Body { return body(-b.X, -b.P, b.M, b.R) }
			wantPush(t, c.what+", mirrored", mirror(b), mirror(a), c.bounce, mirror(y), mirror(x), true)
			if far := b; far.X < farLine {
				far.X++
				wantPush(t, c.what+", one apart", a, far, c.bounce, a, far, true)
			}
		}
	}
	wantPush(t, "far apart", body(-farLine, mostPush, 1, 1), body(farLine, -mostPush, 1, 1), 0, body(-farLine, mostPush, 1, 1), body(farLine, -mostPush, 1, 1), true)
}

func TestBadPushPairs(t *testing.T) {
	none := impl.Body{}
	for what, b := range badBodies() {
		wantPush(t, what+", on the left", b, body(farLine, 0, 1, 1), 50, none, none, false)
		wantPush(t, what+", on the right", body(-farLine, 0, 1, 1), b, 50, none, none, false)
		wantPush(t, what+", both", b, b, 50, none, none, false)
	}
	wantPush(t, "in one another", body(0, 1, 1, 3), body(6, 0, 1, 4), 50, none, none, false)
	wantPush(t, "in one another, apart", body(0, -1, 1, 3), body(6, 0, 1, 4), 50, none, none, false)
	wantPush(t, "walls in one another", wall(0, 3), wall(6, 4), 50, none, none, false)
	wantPush(t, "the wrong way round", body(6, 0, 1, 1), body(0, 0, 1, 1), 50, none, none, false)
	for _, off := range []int{-1, 101, -100, math.MinInt, math.MaxInt, 1 << 32} {
		wantPush(t, "bounce, they meet", body(0, 9, 1, 1), body(2, 0, 1, 1), off, none, none, false)
		wantPush(t, "bounce, by a wall", body(0, 9, 1, 1), wall(2, 1), off, none, none, false)
		wantPush(t, "bounce, they go apart", body(0, -9, 1, 1), body(2, 0, 1, 1), off, none, none, false)
		wantPush(t, "bounce, they don't touch", body(0, 9, 1, 1), body(9, 0, 1, 1), off, none, none, false)
		wantPush(t, "bounce, walls", wall(0, 1), wall(2, 1), off, none, none, false)
	}
	const most = mostPush
	beyond := []pushCase{
		{"one more than the most", [2]int{most, 1}, [2]int{2, 2}, 50, [2]int{}},
		{"bounce one more than would do", [2]int{most, 1}, [2]int{0, 2}, 51, [2]int{}},
		{"far beyond the most", [2]int{most, 1}, [2]int{most, 12}, 100, [2]int{}},
		{"beyond the most, nothing back", [2]int{most, 1}, [2]int{most, 12}, 0, [2]int{}},
		{"one less than the least", [2]int{-2, 2}, [2]int{-most, 1}, 50, [2]int{}},
		{"far below the least", [2]int{-most, 12}, [2]int{-most, 1}, 100, [2]int{}},
	}
	for _, c := range beyond {
		wantPush(t, c.what, body(0, c.a[0], c.a[1], 1), body(2, c.b[0], c.b[1], 1), c.bounce, none, none, false)
	}
}

func TestPushLine(t *testing.T) {
	const most = mostPush
	apart := bodies(body(0, 9, 1, 1), body(3, 0, 1, 1))
	shut := bodies(wall(0, 1), body(2, -5, 1, 1), body(4, 0, 1, 1), wall(6, 1))
	odd := bodies(body(0, 0, 2, 1), body(2, 0, 1, 1), body(4, -most, 1, 1))
	mass := bodies(body(0, most, 1, 1), body(2, 0, 1, 1), body(4, 0, 2, 1), body(6, 0, 12, 1))
	told := []struct {
		what   string
		l      []impl.Body
		bounce int
		rounds int
		want   []int
		good   bool
	}{
		{"no body", nil, 50, 50, nil, true},
		{"one body", touchingBodies(3, 8), 50, 50, []int{8}, true},
		{"no round", touchingBodies(1, 10, 0, 0), 100, 0, []int{10, 0, 0}, true},
		{"through to the right in one round", touchingBodies(1, 10, 0, 0, 0), 100, 1, []int{0, 0, 0, 10}, true},
		{"to the left by one a round", touchingBodies(1, 0, 0, 0, -10), 100, 1, []int{0, 0, -10, 0}, true},
		{"to the left by one a round, twice", touchingBodies(1, 0, 0, 0, -10), 100, 2, []int{0, -10, 0, 0}, true},
		{"to the left, all the way", touchingBodies(1, 0, 0, 0, -10), 100, 3, []int{-10, 0, 0, 0}, true},
		{"to the left, all rounds", touchingBodies(1, 0, 0, 0, -10), 100, 50, []int{-10, 0, 0, 0}, true},
		{"nothing back, once", touchingBodies(1, 9, 0, 0), 0, 1, []int{5, 2, 2}, true},
		{"nothing back, twice", touchingBodies(1, 9, 0, 0), 0, 2, []int{4, 3, 2}, true},
		{"nothing back, in the end", touchingBodies(1, 9, 0, 0), 0, 50, []int{4, 3, 2}, true},
		{"against each other", touchingBodies(1, 4, 0, -4), 100, 1, []int{0, -4, 4}, true},
		{"against each other, again", touchingBodies(1, 4, 0, -4), 100, 2, []int{-4, 0, 4}, true},
		{"they don't touch", apart, 100, 50, []int{9, 0}, true},
		{"shut in, once", shut, 100, 1, []int{0, 0, -5, 0}, true},
		{"shut in, twice", shut, 100, 2, []int{0, -5, 0, 0}, true},
		{"shut in, half back", shut, 50, 1, []int{0, 1, 0, 0}, true},
		{"a wall between", bodies(body(0, 9, 1, 1), wall(2, 1), body(4, -3, 1, 1)), 100, 1, []int{-9, 0, 3}, true},
		{"beyond in no round", odd, 100, 0, []int{0, 0, -most}, true},
		{"beyond not yet", odd, 100, 1, []int{0, -most, 0}, true},
		{"beyond in the second round", odd, 100, 2, nil, false},
		{"beyond, then back at once", mass, 100, 1, nil, false},
		{"beyond, less mass", mass[:2], 100, 50, []int{0, most}, true},
	}
	for _, c := range told {
		var want []impl.Body
		if c.good {
			want = withPushes(c.l, c.want...)
		}
		if slow, good := slowPushLine(c.l, c.bounce, c.rounds); good != c.good || !alike(slow, want) {
			t.Error(c.what, "is told wrongly:", want, c.good, "and", slow, good)
		}
		wantPushLine(t, c.what, c.l, c.bounce, c.rounds, want, c.good)
	}
	for what, l := range goodLines() {
		want, good := slowPushLine(l, 30, 3)
		wantPushLine(t, what, l, 30, 3, want, good)
	}
}

func TestBadPushLines(t *testing.T) {
	for what, l := range badLinesOfBodies() {
		wantPushLine(t, what, l, 50, 2, nil, false)
		wantPushLine(t, what+", no round", l, 50, 0, nil, false)
	}
	for what, l := range goodLines() {
		for _, off := range []int{-1, 101, math.MinInt, math.MaxInt, 1 << 32} {
			wantPushLine(t, what+", bounce", l, off, 2, nil, false)
			wantPushLine(t, what+", bounce, no round", l, off, 0, nil, false)
		}
		for _, off := range []int{-1, mostRounds + 1, math.MinInt, math.MaxInt, 1 << 32} {
			wantPushLine(t, what+", rounds", l, 50, off, nil, false)
		}
	}
}

// moveCase tells of a line where its bodies are after a time.
type moveCase struct {
	what string
	l    []impl.Body
	time int
	want []int
}

func freeMoves() []moveCase {
	return []moveCase{
		{"no body", nil, 1000, nil},
		{"no time", bodies(body(0, 9, 1, 1), body(3, -9, 1, 1)), 0, []int{0, 3}},
		{"one goes", bodies(body(5, 9, 1, 1)), 1, []int{14}},
		{"one goes back", bodies(body(5, -9, 1, 1)), 1, []int{-4}},
		{"one stands", bodies(body(5, 0, 1, 1)), 1000, []int{5}},
		{"a wall", bodies(wall(5, 1)), 1000, []int{5}},
		{"the longest time", bodies(body(5, 9, 4, 1)), 1000, []int{2255}},
		{"the greatest push", bodies(body(-farLine, mostPush, 1, 1)), 1000, []int{0}},
		{"between two numbers, to the right", bodies(body(0, 11, 4, 1)), 1, []int{2}},
		{"between two numbers, to the left", bodies(body(0, -11, 4, 1)), 1, []int{-2}},
		{"between two numbers, less than one", bodies(body(7, -11, 12, 1)), 1, []int{7}},
		{"between two numbers, in some time", bodies(body(0, 7, 2, 1)), 3, []int{10}},
		{"between two numbers, in some time, to the left", bodies(body(0, -7, 2, 1)), 3, []int{-10}},
		{"between two numbers, from below 0", bodies(body(-5, 8, 3, 1)), 1, []int{-3}},
		{"both go, free", bodies(body(0, -4, 2, 1), body(2, 9, 3, 1)), 2, []int{-4, 8}},
		{"one goes up to the other", bodies(body(0, 8, 1, 1), body(10, 0, 1, 1)), 1, []int{8, 10}},
		{"they touch and go alike", bodies(body(0, 5, 1, 1), body(2, 10, 2, 1), body(4, 15, 3, 1)), 7, []int{35, 37, 39}},
	}
}

func heldMoves() []moveCase {
	return []moveCase{
		{"one goes into the other, and pushes it on", bodies(body(0, 9, 1, 1), body(10, 0, 1, 1)), 1, []int{9, 11}},
		{"they want to pass one another", bodies(body(0, 10, 1, 1), body(4, -10, 1, 1)), 1, []int{10, 12}},
		{"they want to pass one another, the other is faster", bodies(body(0, 1, 1, 1), body(4, -100, 1, 1)), 1, []int{1, 3}},
		{"one wants to pass the next but one", bodies(body(0, 50, 1, 1), body(4, 0, 1, 1), body(20, 0, 1, 2)), 1, []int{50, 52, 55}},
		{"one ahead holds it back", bodies(body(0, 0, 1, 1), body(5, -10, 1, 1)), 1, []int{0, 2}},
		{"one ahead that goes holds it back", bodies(body(0, -3, 1, 1), body(5, -10, 1, 1)), 1, []int{-3, -1}},
		{"one ahead holds both back", bodies(body(0, 0, 1, 1), body(5, -10, 1, 2), body(20, -90, 1, 3)), 1, []int{0, 3, 8}},
		{"a wall on the left bars", bodies(wall(0, 1), body(5, -10, 1, 1)), 1, []int{0, 2}},
		{"a wall on the left bars two", bodies(wall(0, 1), body(5, -10, 1, 1), body(9, -20, 1, 2)), 1, []int{0, 2, 5}},
		{"a wall on the right bars", bodies(body(0, 10, 1, 1), wall(5, 1)), 1, []int{3, 5}},
		{"one behind that a wall bars holds it back", bodies(body(0, 10, 1, 1), body(4, 0, 1, 1), wall(7, 1)), 1, []int{3, 5, 7}},
		{"one behind that wants back is barred by it", bodies(body(0, 10, 1, 1), body(9, -5, 1, 2), wall(14, 1)), 1, []int{8, 11, 14}},
		{"a wall on the right bars three", bodies(body(0, 10, 1, 1), body(4, 90, 1, 1), body(9, 0, 1, 3), wall(15, 2)), 1, []int{4, 6, 10, 15}},
		{"a wall that is not reached", bodies(body(0, 2, 1, 1), wall(5, 1), body(9, -1, 1, 1)), 1, []int{2, 5, 8}},
		{"a wall that is just reached", bodies(body(0, 3, 1, 1), wall(5, 1), body(9, -2, 1, 1)), 1, []int{3, 5, 7}},
		{"a wall between lets nothing through", bodies(body(0, 100, 1, 1), wall(4, 1), body(8, 0, 1, 1)), 1, []int{2, 4, 8}},
		{"a wall between, from both sides", bodies(body(0, 100, 1, 1), wall(9, 1), body(18, -100, 1, 1)), 1, []int{7, 9, 11}},
		{"shut in with room", bodies(wall(0, 1), body(3, 100, 1, 1), body(6, 0, 1, 1), wall(10, 1)), 1, []int{0, 6, 8, 10}},
		{"shut in with room, to the left", bodies(wall(0, 1), body(3, 0, 1, 1), body(6, -100, 1, 1), wall(10, 1)), 1, []int{0, 3, 5, 10}},
		{"shut in with room, both to the left", bodies(wall(0, 1), body(3, -7, 1, 1), body(6, -100, 1, 1), wall(10, 1)), 1, []int{0, 2, 4, 10}},
		{"shut in without room", bodies(wall(0, 1), body(2, 100, 1, 1), body(4, -100, 1, 1), wall(6, 1)), 1, []int{0, 2, 4, 6}},
		{"shut in without room, apart", bodies(wall(0, 1), body(2, -100, 1, 1), body(4, 100, 1, 1), wall(6, 1)), 1000, []int{0, 2, 4, 6}},
		{"shut in, three walls", bodies(wall(0, 1), body(2, 100, 1, 1), wall(5, 1), body(8, -100, 1, 1), wall(11, 1)), 1, []int{0, 3, 5, 7, 11}},
		{"walls alone", bodies(wall(0, 1), wall(2, 1), wall(9, 1)), 1000, []int{0, 2, 9}},
		{"great ones", bodies(body(0, 5000, 1, mostReach), body(3000, 0, 1, mostReach), wall(6000, 700)), 1, []int{2300, 4300, 6000}},
	}
}

func movesFarOut() []moveCase {
	const far = farLine
	return []moveCase{
		{"to the end", bodies(body(far-1, 1, 1, 1)), 1, []int{far}},
		{"to the beginning", bodies(body(1-far, -1, 1, 1)), 1, []int{-far}},
		{"held at the end by a wall", bodies(body(far-4, 100, 1, 1), wall(far, 1)), 1, []int{far - 2, far}},
		{"held at the beginning by a wall", bodies(wall(-far, 1), body(4-far, -100, 1, 1)), 1, []int{-far, 2 - far}},
		{"held at the end, both", bodies(body(far-8, mostPush, 1, 1), body(far-5, mostPush, 1, 1), wall(far, 1)), 1000, []int{far - 4, far - 2, far}},
		{"at the end and back", bodies(body(far, -4, 1, 1)), 1, []int{far - 4}},
		{"from beginning to end", bodies(body(-far, mostPush, 1, 1), body(far, 0, 1, 1)), 1000, []int{0, far}},
	}
}

func TestMoveLine(t *testing.T) {
	for _, c := range slices.Concat(freeMoves(), heldMoves(), movesFarOut()) {
		want := withPlaces(c.l, c.want...)
		if slow, good := slowMoveLine(c.l, c.time); !good || !alike(slow, want) {
			t.Error(c.what, "is told wrongly:", want, "and", slow, good)
		}
		wantMove(t, c.what, c.l, c.time, want, true)
	}
	const far = farLine
	wantMove(t, "beyond the end", bodies(body(far, 1, 1, 1)), 1, nil, false)
	wantMove(t, "beyond the end, two", bodies(body(far-1, 2, 1, 1)), 1, nil, false)
	wantMove(t, "beyond the beginning", bodies(body(-far, -1, 1, 1)), 1, nil, false)
	wantMove(t, "beyond the beginning, two", bodies(body(1-far, -2, 1, 1), body(9, 0, 1, 1)), 1, nil, false)
	wantMove(t, "far beyond the end", bodies(body(far, mostPush, 1, 1)), 1000, nil, false)
	wantMove(t, "far beyond the beginning", bodies(body(-far, -mostPush, 1, 1)), 1000, nil, false)
	wantMove(t, "pushed beyond the end", bodies(body(far-4, 3, 1, 1), body(far, 0, 1, 1)), 1, nil, false)
	wantMove(t, "pushed to the end alone", bodies(body(far-4, 2, 1, 1), body(far-1, 0, 1, 1)), 1, bodies(body(far-2, 2, 1, 1), body(far, 0, 1, 1)), true)
	wantMove(t, "less than one beyond the end", bodies(body(far, 11, 12, 1)), 1, bodies(body(far, 11, 12, 1)), true)
	wantMove(t, "less than one beyond the beginning", bodies(body(-far, -11, 12, 1)), 1, bodies(body(-far, -11, 12, 1)), true)
}

func TestBadMoves(t *testing.T) {
	for what, l := range badLinesOfBodies() {
		wantMove(t, what, l, 1, nil, false)
		wantMove(t, what+", no time", l, 0, nil, false)
	}
	for what, l := range goodLines() {
		wantMove(t, what+", no time", l, 0, l, true)
		for _, off := range []int{-1, mostMove + 1, math.MinInt, math.MaxInt, 1 << 32} {
			wantMove(t, what+", time", l, off, nil, false)
		}
	}
}

func TestStepLine(t *testing.T) {
	pair := bodies(body(0, 10, 1, 1), body(2, 0, 1, 1))
	row := touchingBodies(1, 10, 0, 0)
	wantStep(t, "no body", nil, 50, 5, 5, nil, true)
	wantStep(t, "pushed, then moved", pair, 100, 1, 3, bodies(body(0, 0, 1, 1), body(32, 10, 1, 1)), true)
	wantStep(t, "no round", pair, 100, 0, 3, bodies(body(30, 10, 1, 1), body(32, 0, 1, 1)), true)
	wantStep(t, "no time", pair, 100, 1, 0, bodies(body(0, 0, 1, 1), body(2, 10, 1, 1)), true)
	wantStep(t, "neither", pair, 100, 0, 0, pair, true)
	wantStep(t, "three", row, 0, 1, 1, bodies(body(5, 5, 1, 1), body(7, 3, 1, 1), body(9, 2, 1, 1)), true)
	wantStep(t, "back from a wall", bodies(body(0, 4, 2, 1), wall(2, 1)), 100, 1, 5, bodies(body(-10, -4, 2, 1), wall(2, 1)), true)
	wantStep(t, "stopped by a wall", bodies(body(0, 4, 2, 1), wall(2, 1)), 0, 50, 1000, bodies(body(0, 0, 2, 1), wall(2, 1)), true)
	wantStep(t, "the push goes beyond", bodies(body(0, mostPush, 1, 1), body(2, 0, 2, 1)), 100, 1, 0, nil, false)
	wantStep(t, "the way goes beyond", bodies(body(farLine-2, 5, 1, 1), body(farLine, 0, 1, 1)), 100, 1, 1, nil, false)
	wantStep(t, "the way would go beyond, but for a push", bodies(body(farLine-2, 5, 1, 1), wall(farLine, 1)), 100, 1, 1, bodies(body(farLine-7, -5, 1, 1), wall(farLine, 1)), true)
	for what, l := range badLinesOfBodies() {
		wantStep(t, what, l, 50, 1, 1, nil, false)
		wantStep(t, what+", nothing to do", l, 0, 0, 0, nil, false)
	}
	for what, l := range goodLines() {
		for _, c := range [][3]int{{-1, 1, 1}, {101, 1, 1}, {50, -1, 1}, {50, mostRounds + 1, 1}, {50, 1, -1}, {50, 1, mostMove + 1}} {
			wantStep(t, what, l, c[0], c[1], c[2], nil, false)
		}
		want, good := slowStepLine(l, 100, mostRounds, 1)
		wantStep(t, what, l, 100, mostRounds, 1, want, good)
	}
}

// allTies gives so many ties between things below many, over and over.
func allTies(many int, ties int) []impl.Pair {
	var out []impl.Pair
	for i := range ties {
		a := i % (many - 1)
		out = append(out, impl.Pair{A: a, B: a + 1 + i/many%(many-1-a)})
	}
	return out
}

func TestIslands(t *testing.T) {
	var alone [][]int
	for i := range mostShapes {
		alone = append(alone, []int{i})
	}
	told := []struct {
		what string
		many int
		ties []impl.Pair
		want [][]int
	}{
		{"no thing", 0, nil, nil},
		{"one thing", 1, nil, alone[:1]},
		{"no pair", 3, nil, alone[:3]},
		{"no pair, all things", mostShapes, nil, alone},
		{"one pair", 2, pairsOf(0, 1), [][]int{{0, 1}}},
		{"one pair of three", 3, pairsOf(0, 2), [][]int{{0, 2}, {1}}},
		{"one pair at the end", 4, pairsOf(2, 3), [][]int{{0}, {1}, {2, 3}}},
		{"a pair twice", 3, pairsOf(1, 2, 1, 2), [][]int{{0}, {1, 2}}},
		{"a row", 5, pairsOf(0, 1, 1, 2, 2, 3, 3, 4), [][]int{{0, 1, 2, 3, 4}}},
		{"a row, from its end", 5, pairsOf(3, 4, 2, 3, 1, 2, 0, 1), [][]int{{0, 1, 2, 3, 4}}},
		{"a row, from its ends", 5, pairsOf(0, 1, 3, 4, 1, 3), [][]int{{0, 1, 3, 4}, {2}}},
		{"a ring", 4, pairsOf(0, 1, 1, 2, 2, 3, 0, 3), [][]int{{0, 1, 2, 3}}},
		{"a ring among others", 6, pairsOf(1, 3, 3, 5, 1, 5), [][]int{{0}, {1, 3, 5}, {2}, {4}}},
		{"two heaps", 6, pairsOf(0, 2, 2, 4, 1, 3, 3, 5), [][]int{{0, 2, 4}, {1, 3, 5}}},
		{"two heaps, in turn", 6, pairsOf(3, 5, 2, 4, 1, 5, 0, 4), [][]int{{0, 2, 4}, {1, 3, 5}}},
		{"two heaps that join", 6, pairsOf(0, 2, 2, 4, 1, 3, 3, 5, 4, 5), [][]int{{0, 1, 2, 3, 4, 5}}},
		{"a star", 5, pairsOf(0, 4, 1, 4, 2, 4), [][]int{{0, 1, 2, 4}, {3}}},
		{"a star, from the first", 5, pairsOf(0, 3, 0, 1, 0, 4), [][]int{{0, 1, 3, 4}, {2}}},
		{"the last of all", mostShapes, pairsOf(0, mostShapes-1), slices.Concat([][]int{{0, mostShapes - 1}}, alone[1:mostShapes-1])},
		{"all pairs that may be", mostShapes, allTies(mostShapes, mostTies), [][]int{counted(mostShapes)}},
		{"one pair as often as may be", 3, slices.Repeat(pairsOf(0, 2), mostTies), [][]int{{0, 2}, {1}}},
	}
	for _, c := range told {
		if want, good := slowIslands(c.many, c.ties); !good || !alike(want, c.want) {
			t.Error(c.what, "is told wrongly:", c.want, "and", want)
		}
		wantIslands(t, c.what, c.many, c.ties, c.want, true)
	}
}

func TestBadIslands(t *testing.T) {
	wantIslands(t, "one thing too many", mostShapes+1, nil, nil, false)
	wantIslands(t, "one pair too many", mostShapes, allTies(mostShapes, mostTies+1), nil, false)
	wantIslands(t, "one pair too often", 3, slices.Repeat(pairsOf(0, 2), mostTies+1), nil, false)
	wantIslands(t, "a pair of nothing", 0, pairsOf(0, 1), nil, false)
	wantIslands(t, "a pair of one", 1, pairsOf(0, 1), nil, false)
	for _, off := range []int{-1, -40, mostShapes + 1, math.MinInt, math.MaxInt, 1 << 32} {
		wantIslands(t, "many", off, nil, nil, false)
		wantIslands(t, "many, with a pair", off, pairsOf(0, 1), nil, false)
	}
	bad := pairsOf(1, 1, 2, 1, 0, 0, -1, 2, -1, -1, 2, 4, 0, 5, 4, 5, 4, 4, 3, 4,
		math.MinInt, 2, 1, math.MaxInt, math.MinInt, math.MaxInt, 2, math.MinInt, math.MaxInt, 2, 0, 1<<32+1, -1<<32, 1)
	for _, tie := range bad {
		wantIslands(t, "alone", 4, []impl.Pair{tie}, nil, false)
		wantIslands(t, "first", 4, []impl.Pair{tie, {A: 0, B: 1}}, nil, false)
		wantIslands(t, "last", 4, []impl.Pair{{A: 0, B: 1}, {A: 2, B: 3}, tie}, nil, false)
	}
}

func TestStepIslands(t *testing.T) {
	pair := bodies(body(0, 10, 1, 1), body(2, 0, 1, 1))
	after := bodies(body(0, 0, 1, 1), body(32, 10, 1, 1))
	lines := func(l ...[]impl.Body) [][]impl.Body { return l }
	wantSteps(t, "no line", nil, 100, 1, 3, nil, true)
	wantSteps(t, "an empty line", lines(nil), 100, 1, 3, lines(nil), true)
	wantSteps(t, "one line", lines(pair), 100, 1, 3, lines(after), true)
	wantSteps(t, "one line twice", lines(pair, pair), 100, 1, 3, lines(after, after), true)
	wantSteps(t, "an empty line among others", lines(pair, nil, bodies(wall(5, 1))), 100, 1, 3, lines(after, nil, bodies(wall(5, 1))), true)
	wantSteps(t, "lines that would lie in one another", lines(pair, bodies(body(1, 3, 1, 5))), 100, 1, 3, lines(after, bodies(body(10, 3, 1, 5))), true)
	wantSteps(t, "all lines", slices.Repeat(lines(pair), mostLines), 100, 1, 3, slices.Repeat(lines(after), mostLines), true)
	wantSteps(t, "one line too many", slices.Repeat(lines(pair), mostLines+1), 100, 1, 3, nil, false)
	wantSteps(t, "one empty line too many", slices.Repeat(lines(nil), mostLines+1), 100, 1, 3, nil, false)
	for what, l := range badLinesOfBodies() {
		wantSteps(t, "alone: "+what, lines(l), 100, 1, 3, nil, false)
		wantSteps(t, "first: "+what, lines(l, pair, pair), 100, 1, 3, nil, false)
		wantSteps(t, "last: "+what, lines(pair, nil, l), 100, 1, 3, nil, false)
	}
	gone := bodies(body(farLine, 1, 1, 1))
	fast := bodies(body(0, mostPush, 1, 1), body(2, 0, 2, 1))
	for at := range mostLines {
		for what, l := range map[string][]impl.Body{"gone": gone, "fast": fast} {
			all := slices.Repeat(lines(pair), mostLines)
			all[at] = l
			wantSteps(t, what, all, 100, 1, 3, nil, false)
		}
	}
	for _, c := range [][3]int{{-1, 1, 1}, {101, 1, 1}, {50, -1, 1}, {50, mostRounds + 1, 1}, {50, 1, -1}, {50, 1, mostMove + 1}} {
		wantSteps(t, "not as said", lines(pair), c[0], c[1], c[2], nil, false)
		wantSteps(t, "not as said, an empty line", lines(nil), c[0], c[1], c[2], nil, false)
	}
}

// coinBody gives a good body without its place.
func coinBody(next func(int) int, quick int) impl.Body {
	b := body(0, 0, 1+next(3), 1+next(4))
	switch next(6) {
	case 0:
		return wall(0, 1+next(4))
	case 1:
		b.M = 1 + next(mostMass)
	case 2:
		b.R = 1 + next(mostReach)
	}
	b.P = coinNumber(next, 1000)*quick/1000 + coinNumber(next, 3)
	b.P = max(-mostPush, min(mostPush, b.P))
	return b
}

// coinLine gives a good line out of coins: many of its bodies touch; now and then it lies at an end.
func coinLine(next func(int) int) []impl.Body {
	many := next(7)
	if next(6) == 0 {
		many = next(mostBodies + 1)
	}
	quick := [4]int{0, 30, 3000, mostPush}[next(4)]
	gap := 1 + next(3)*next(12)
	var l []impl.Body
	end := coinNumber(next, 50)
	for range many {
		b := coinBody(next, quick)
		if next(2) == 0 {
			end += next(gap)
		}
		b.X = end + b.R
		end = b.X + b.R
		l = append(l, b)
	}
	return shifted(l, next)
}

// shifted gives a line with one of its ends near an end of all lines, or as it is.
func shifted(l []impl.Body, next func(int) int) []impl.Body {
	if len(l) == 0 {
		return l
	}
	by := 0
	switch next(8) {
	case 0:
		by = farLine - next(20) - l[len(l)-1].X
	case 1:
		by = -farLine + next(20) - l[0].X
	}
	for i := range l {
		l[i].X += by
	}
	return l
}

func TestPushesByCoins(t *testing.T) {
	pushed, beyond := 0, 0
	for seed := range 4000 {
		next := coinRow(seed + 1)
		l := coinLine(next)
		bounce, rounds := [4]int{0, 100, 50, next(101)}[next(4)], [3]int{1, next(6), next(mostRounds + 1)}[next(3)]
		book, good := slowBook(l)
		wantBook(t, "coins", l, book, good)
		for i := 1; i < len(l); i++ {
			a, b, good := slowPush(l[i-1], l[i], bounce)
			wantPush(t, "coins", l[i-1], l[i], bounce, a, b, good)
		}
		want, good := slowPushLine(l, bounce, rounds)
		wantPushLine(t, "coins", l, bounce, rounds, want, good)
		if !good {
			beyond++
		} else if !alike(want, l) {
			pushed++
		}
	}
	if pushed < 500 || beyond < 30 {
		t.Error("pushed:", pushed, "beyond:", beyond)
	}
}

func TestMovesByCoins(t *testing.T) {
	held, beyond := 0, 0
	for seed := range 4000 {
		next := coinRow(seed + 77)
		l := coinLine(next)
		time := [3]int{1, next(5), next(mostMove + 1)}[next(3)]
		want, good := slowMoveLine(l, time)
		wantMove(t, "coins", l, time, want, good)
		for i, b := range want {
			if b.M > 0 && b.X != l[i].X+b.P*time/b.M {
				held++
			}
		}
		if !good {
			beyond++
		}
		rounds := next(4)
		want, good = slowStepLine(l, 60, rounds, time)
		wantStep(t, "coins", l, 60, rounds, time, want, good)
	}
	if held < 500 || beyond < 100 {
		t.Error("held:", held, "beyond:", beyond)
	}
}

func energyOf(b impl.Book) *big.Rat { return big.NewRat(int64(b.Num), int64(b.Den)) }

// Promise 10: pushes together stay what they were (a wall takes some), and energy never rises.
func TestPushesStayAndEnergyNeverRises(t *testing.T) {
	fell, kept := 0, 0
	for seed := range 3000 {
		next := coinRow(seed + 501)
		l := coinLine(next)
		bounce, rounds := [4]int{0, 100, 100, next(101)}[next(4)], 1+next(8)
		then, good := impl.PushLine(l, bounce, rounds)
		if !good {
			continue
		}
		before, _ := impl.BookOf(l)
		after, good := impl.BookOf(then)
		walls := slices.ContainsFunc(l, func(b impl.Body) bool { return b.M == 0 })
		if !good || !walls && before.Push != after.Push {
			t.Fatalf("%v, %d, %d: %v pushes, then %v: %v", l, bounce, rounds, before, after, then)
		}
		switch energyOf(after).Cmp(energyOf(before)) {
		case 1:
			t.Fatalf("%v, %d, %d: energy %v, then %v: %v", l, bounce, rounds, before, after, then)
		case 0:
			kept++
		case -1:
			fell++
		}
		// Nothing but pushes changes, and the walls have none.
		if !alike(withPushes(then, onesPushes(l)...), l) {
			t.Fatal(l, then)
		}
	}
	if fell < 300 || kept < 300 {
		t.Error("energy fell:", fell, "and stayed:", kept)
	}
}

// Promise 10: of two alone energy never rises, whatever both are, and pushes are told to the unit.
func TestEnergyOfTwoNeverRises(t *testing.T) {
	for m := range mostMass + 1 {
		for n := range mostMass + 1 {
			for seed := range 12 {
				next := coinRow(1000*m + 50*n + seed)
				a, b := body(0, coinNumber(next, 20)*m, m, 1), body(2, coinNumber(next, 20)*n, n, 1)
				if m > 0 {
					a.P += next(m)
				}
				before, _ := impl.BookOf(bodies(a, b))
				for _, bounce := range []int{0, 1, 33, 50, 99, 100} {
					c, d, good := impl.PushPair(a, b, bounce)
					after, booked := impl.BookOf(bodies(c, d))
					if !good || !booked || energyOf(after).Cmp(energyOf(before)) > 0 {
						t.Fatalf("%v, %v, %d: %v, then %v", a, b, bounce, before, after)
					}
					if m > 0 && n > 0 && before.Push != after.Push {
						t.Fatalf("%v, %v, %d: %v, then %v", a, b, bounce, before, after)
					}
					if m > 0 && n > 0 && bounce == 100 && before.Num > 0 && c.P != a.P {
						wantApart(t, a, b, c, d)
					}
				}
			}
		}
	}
}

// wantApart asks of a pushed pair that with all of the bounce they come nearer by no more than the
// part of a push that was cut off.
func wantApart(t *testing.T, a impl.Body, b impl.Body, c impl.Body, d impl.Body) {
	t.Helper()
	was := new(big.Rat).Sub(slowSpeed(a), slowSpeed(b))
	is := new(big.Rat).Sub(slowSpeed(d), slowSpeed(c))
	lost := new(big.Rat).Sub(was, is)
	cut := big.NewRat(int64(a.M+b.M), int64(a.M*b.M))
	if lost.Sign() < 0 || lost.Cmp(cut) >= 0 {
		t.Fatalf("%v, %v: then %v, %v: %v became %v", a, b, c, d, was, is)
	}
}

// Promise 10: bodies never pass one another, and walls stay, step after step.
func TestBodiesNeverPassOneAnother(t *testing.T) {
	steps := 0
	for seed := range 600 {
		next := coinRow(seed + 9)
		l := coinLine(next)
		for range 12 {
			then, good := impl.StepLine(l, next(101), next(4), next(9)*next(9))
			if !good {
				break
			}
			steps++
			if len(then) != len(l) || !impl.GoodLine(then) {
				t.Fatal(l, then)
			}
			for i := range l {
				if then[i].M != l[i].M || then[i].R != l[i].R || l[i].M == 0 && then[i] != l[i] {
					t.Fatal(l, then)
				}
				if i > 0 && then[i].X-then[i-1].X < l[i].R+l[i-1].R {
					t.Fatal(l, then)
				}
			}
			l = then
		}
	}
	if steps < 3000 {
		t.Error("steps:", steps)
	}
}

// coinTies gives ties out of coins between things below many.
func coinTies(next func(int) int, many int) []impl.Pair {
	var out []impl.Pair
	if many < 2 {
		return nil
	}
	for range next(1 + next(2*many)) {
		a := next(many - 1)
		out = append(out, impl.Pair{A: a, B: a + 1 + next(many-1-a)})
	}
	return out
}

func TestIslandsByCoins(t *testing.T) {
	sizes := map[int]int{}
	for seed := range 1500 {
		next := coinRow(seed + 31)
		many := next([2]int{9, mostShapes + 1}[next(2)])
		ties := coinTies(next, many)
		want, good := slowIslands(many, ties)
		wantIslands(t, "coins", many, ties, want, good)
		mixed := slices.Clone(ties)
		slices.Reverse(mixed)
		wantIslands(t, "coins, the other way round", many, mixed, want, good)
		for _, island := range want {
			sizes[min(len(island), 4)]++
		}
	}
	for size := 1; size <= 4; size++ {
		if sizes[size] < 200 {
			t.Error(sizes)
		}
	}
}

// Promise 10: islands hang on nothing else: each line steps as it does alone, whatever lies beside it.
func TestIslandsHangOnNothingElse(t *testing.T) {
	all, some := 0, 0
	for seed := range 800 {
		next := coinRow(seed + 41)
		var lines, want [][]impl.Body
		bounce, rounds, time := next(101), next(5), next(30)
		good := true
		for range next(1 + next(mostLines+1)) {
			line := coinLine(next)
			then, stepped := impl.StepLine(line, bounce, rounds, time)
			lines, want, good = append(lines, line), append(want, then), good && stepped
		}
		if !good {
			some++
			want = nil
		} else if len(lines) > 1 {
			all++
		}
		wantSteps(t, "coins", lines, bounce, rounds, time, want, good)
		if slices.Reverse(lines); good {
			slices.Reverse(want)
		}
		wantSteps(t, "coins, the other way round", lines, bounce, rounds, time, want, good)
	}
	if all < 150 || some < 100 {
		t.Error("all stepped:", all, "one did not:", some)
	}
}

// spoiledBodies gives the line, mostly with something in it that is not good.
func spoiledBodies(l []impl.Body, next func(int) int) []impl.Body {
	off := []int{0, -1, 1, 2, mostMass, mostMass + 1, mostReach, mostReach + 1, mostPush, mostPush + 1, -mostPush - 1, farLine, -farLine, farLine + 1, math.MinInt, math.MaxInt}[next(16)]
	if len(l) == 0 || next(3) == 0 {
		return l
	}
	at := next(len(l))
	switch next(6) {
	case 0:
		l[at].X = off
	case 1:
		l[at].P = off
	case 2:
		l[at].M = off
	case 3:
		l[at].R = off
	case 4:
		for len(l) < mostBodies+next(2) {
			last := l[len(l)-1]
			l = append(l, body(last.X+last.R+1, 0, 1, 1))
		}
	case 5:
		l = append(l, l[at])
	}
	return l
}

func TestPushesAnswerAtAnyArguments(t *testing.T) {
	kinds := [2]int{}
	for seed := range 2000 {
		next := coinRow(seed + 61)
		l := spoiledBodies(coinLine(next), next)
		bounce, rounds, time := next(101), next(4), next(20)
		odd := []int{-1, 0, 50, 51, 100, 101, 1000, 1001, math.MinInt, math.MaxInt}[next(10)]
		switch next(6) {
		case 0:
			bounce = odd
		case 1:
			rounds = odd
		case 2:
			time = odd
		}
		if got := purely(t, "GoodLine", impl.GoodLine, l); got[0] != slowGoodBodies(l) {
			t.Fatalf("GoodLine %v = %v", l, got)
		}
		book, good := slowBook(l)
		wantBook(t, "any", l, book, good)
		for i := range l {
			j := (i + 1) % len(l)
			a, b, good := slowPush(l[i], l[j], bounce)
			wantPush(t, "any", l[i], l[j], bounce, a, b, good)
		}
		pushed, good := slowPushLine(l, bounce, rounds)
		wantPushLine(t, "any", l, bounce, rounds, pushed, good)
		moved, good := slowMoveLine(l, time)
		wantMove(t, "any", l, time, moved, good)
		stepped, good := slowStepLine(l, bounce, rounds, time)
		wantStep(t, "any", l, bounce, rounds, time, stepped, good)
		var steps [][]impl.Body
		if good {
			steps = [][]impl.Body{stepped, stepped}
			kinds[1]++
		} else {
			kinds[0]++
		}
		wantSteps(t, "any", [][]impl.Body{l, l}, bounce, rounds, time, steps, good)
		many := []int{odd, next(9), next(mostShapes + 3)}[next(3)]
		ties := coinTies(next, 1+next(9))
		if len(ties) > 0 && next(3) == 0 {
			ties[next(len(ties))] = impl.Pair{A: []int{odd, next(9)}[next(2)], B: []int{odd, next(9)}[next(2)]}
		}
		islands, tied := slowIslands(many, ties)
		wantIslands(t, "any", many, ties, islands, tied)
	}
	if kinds[0] < 300 || kinds[1] < 300 {
		t.Error("bad and good:", kinds)
	}
}

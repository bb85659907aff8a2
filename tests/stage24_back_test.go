package tests

import (
	"fmt"
	"reflect"
	"slices"
	"strings"
	"testing"

	"loop.example/g00064/impl"
)

const mostSeats = 4
const mostGameFrames = 60
const mostLate = 200
const lastGameSpot = 63
const mostSeatHp = 9
const strikes = 5

func word24(frame int, seat int, input int) impl.Late {
	return impl.Late{Frame: frame, Seat: seat, Input: input}
}

// seatsOf reads seats out of words like `5,6,9`: X, Y and Hp.
func seatsOf(words string) []impl.Seat {
	var out []impl.Seat
	for _, word := range strings.Fields(words) {
		var s impl.Seat
		if _, err := fmt.Sscanf(word, "%d,%d,%d", &s.X, &s.Y, &s.Hp); err != nil {
			panic(word)
		}
		out = append(out, s)
	}
	return out
}

func gameOf(frame int, coin int, seats string) impl.Game {
	return impl.Game{Frame: frame, Coin: coin, Seats: seatsOf(seats)}
}

// seatRow gives so many seats beside one another.
func seatRow(many int) []impl.Seat {
	var out []impl.Seat
	for i := range many {
		out = append(out, impl.Seat{X: 20 + i, Y: 30, Hp: mostSeatHp - i%9})
	}
	return out
}

// inputRow reads inputs out of digits.
func inputRow(digits string) []int {
	var out []int
	for _, digit := range digits {
		out = append(out, int(digit-'0'))
	}
	return out
}

func inputRows(words string) [][]int {
	var out [][]int
	for _, word := range strings.Fields(words) {
		out = append(out, inputRow(word))
	}
	return out
}

// gameParts gives the places of all numbers of a game, in the order of its sum.
func gameParts(g *impl.Game) []*int {
	out := []*int{&g.Frame, &g.Coin}
	for i := range g.Seats {
		out = append(out, &g.Seats[i].X, &g.Seats[i].Y, &g.Seats[i].Hp)
	}
	return out
}

// ownCopy gives a value in memory of its own.
func ownCopy[T any](v T) T { return bare(reflect.ValueOf(v)).Interface().(T) }

func withGame(g impl.Game, change func(*impl.Game)) impl.Game {
	out := ownCopy(g)
	change(&out)
	return out
}

func withPeer(p impl.Peer, change func(*impl.Peer)) impl.Peer {
	out := ownCopy(p)
	change(&out)
	return out
}

func slowGoodSeat(s impl.Seat) bool {
	return within(0, s.X, 63) && within(0, s.Y, 63) && within(0, s.Hp, 9)
}

func slowGoodGame(g impl.Game) bool {
	return within(0, g.Frame, 60) && slowGoodSeed(g.Coin) && within(1, len(g.Seats), 4) &&
		!slices.ContainsFunc(g.Seats, func(s impl.Seat) bool { return !slowGoodSeat(s) })
}

func slowStart(seats int, seed int) (impl.Game, bool) {
	if !within(1, seats, 4) || !slowGoodSeed(seed) {
		return impl.Game{}, false
	}
	return gameOf(0, seed, strings.Join([]string{"0,0,9", "8,8,9", "16,16,9", "24,24,9"}[:seats], " ")), true
}

func slowGoodInputs(inputs []int, seats int) bool {
	return len(inputs) == seats && !slices.ContainsFunc(inputs, func(input int) bool { return !within(0, input, 5) })
}

// slowStepped moves one seat: a step that would lead out of the ground is not made.
func slowStepped(s impl.Seat, input int) impl.Seat {
	steps := [][2]int{{0, 0}, {-1, 0}, {1, 0}, {0, -1}, {0, 1}, {0, 0}}
	then := impl.Seat{X: s.X + steps[input][0], Y: s.Y + steps[input][1], Hp: s.Hp}
	if s.Hp == 0 || !slowGoodSeat(then) {
		return s
	}
	return then
}

// slowStruck lists who is struck, one after the other, by places that no strike changes.
func slowStruck(seats []impl.Seat, inputs []int) []int {
	var out []int
	for i, a := range seats {
		for j, b := range seats {
			if inputs[i] == strikes && a.Hp > 0 && i != j && within(-1, a.X-b.X, 1) && within(-1, a.Y-b.Y, 1) {
				out = append(out, j)
			}
		}
	}
	return out
}

func slowStepGame(g impl.Game, inputs []int) (impl.Game, bool) {
	if !slowGoodGame(g) || g.Frame == 60 || !slowGoodInputs(inputs, len(g.Seats)) {
		return impl.Game{}, false
	}
	then := impl.Game{Frame: g.Frame + 1, Coin: g.Coin}
	for i, s := range g.Seats {
		then.Seats = append(then.Seats, slowStepped(s, inputs[i]))
	}
	for _, struck := range slowStruck(then.Seats, inputs) {
		seed, coin := slowCoin(then.Coin)
		then.Coin = seed
		if s := &then.Seats[struck]; coin&1 == 0 && s.Hp > 0 {
			s.Hp--
		}
	}
	return then, true
}

func slowPlayAll(seats int, seed int, inputs [][]int) (impl.Game, bool) {
	g, good := slowStart(seats, seed)
	for _, list := range inputs {
		g, good = slowStepGame(g, list)
	}
	return g, good
}

func slowNewPeer(seats int, seed int) (impl.Peer, bool) {
	g, good := slowStart(seats, seed)
	p := impl.Peer{Game: g}
	for range 60 {
		if !good {
			return impl.Peer{}, false
		}
		p.Inputs, p.Known = append(p.Inputs, make([]int, seats)), append(p.Known, make([]bool, seats))
	}
	return p, true
}

func slowGoodPeer(p impl.Peer) bool {
	if !slowGoodGame(p.Game) || len(p.Inputs) != 60 || len(p.Known) != 60 || len(p.Past) != p.Game.Frame {
		return false
	}
	seats := len(p.Game.Seats)
	for frame := range 60 {
		if !slowGoodInputs(p.Inputs[frame], seats) || len(p.Known[frame]) != seats {
			return false
		}
		for seat := range seats {
			if !p.Known[frame][seat] && p.Inputs[frame][seat] != 0 {
				return false
			}
		}
	}
	for frame, g := range p.Past {
		if !slowGoodGame(g) || g.Frame != frame || len(g.Seats) != seats {
			return false
		}
	}
	return true
}

// heardRows gives the inputs of so many frames, those that were not heard as those ahead of them.
func heardRows(seats int, frames int, heard map[[2]int]int) [][]int {
	var out [][]int
	last := make([]int, seats)
	for frame := range frames {
		for seat := range seats {
			if input, has := heard[[2]int{frame, seat}]; has {
				last[seat] = input
			}
		}
		out = append(out, slices.Clone(last))
	}
	return out
}

// slowGuesses gives what a peer knows or guesses of all frames.
func slowGuesses(p impl.Peer) [][]int {
	heard := map[[2]int]int{}
	for frame, flags := range p.Known {
		for seat, known := range flags {
			if known {
				heard[[2]int{frame, seat}] = p.Inputs[frame][seat]
			}
		}
	}
	return heardRows(len(p.Game.Seats), 60, heard)
}

func slowPeerStep(p impl.Peer) (impl.Peer, bool) {
	if !slowGoodPeer(p) || p.Game.Frame == 60 {
		return impl.Peer{}, false
	}
	then := ownCopy(p)
	then.Past = append(then.Past, ownCopy(p.Game))
	then.Game, _ = slowStepGame(p.Game, slowGuesses(p)[p.Game.Frame])
	return then, true
}

func slowMayHear(p impl.Peer, l impl.Late) bool {
	return within(0, l.Frame, 59) && within(0, l.Seat, len(p.Game.Seats)-1) && within(0, l.Input, 5) && !p.Known[l.Frame][l.Seat]
}

func slowHears(p impl.Peer, l impl.Late) (impl.Peer, int, bool) {
	if !slowGoodPeer(p) || !slowMayHear(p, l) {
		return impl.Peer{}, 0, false
	}
	then := ownCopy(p)
	then.Known[l.Frame][l.Seat], then.Inputs[l.Frame][l.Seat] = true, l.Input
	again := p.Game.Frame - l.Frame
	if again <= 0 || slowGuesses(p)[l.Frame][l.Seat] == l.Input {
		return then, 0, true
	}
	then.Past = append([]impl.Game(nil), then.Past[:l.Frame+1]...)
	for _, inputs := range slowGuesses(then)[l.Frame:p.Game.Frame] {
		g, _ := slowStepGame(then.Past[len(then.Past)-1], inputs)
		then.Past = append(then.Past, g)
	}
	then.Game = then.Past[p.Game.Frame]
	then.Past = then.Past[:p.Game.Frame]
	return then, again, true
}

// firstHeard gives what is heard of words: the first good one of each frame and seat.
func firstHeard(seats int, words []impl.Late) map[[2]int]int {
	heard := map[[2]int]int{}
	for _, l := range words {
		at := [2]int{l.Frame, l.Seat}
		if _, has := heard[at]; !has && within(0, l.Frame, 59) && within(0, l.Seat, seats-1) && within(0, l.Input, 5) {
			heard[at] = l.Input
		}
	}
	return heard
}

// slowRunPeer plays what was heard from the beginning.
func slowRunPeer(seats int, seed int, frames int, words []impl.Late) (impl.Game, bool) {
	if _, good := slowStart(seats, seed); !good || !within(0, frames, 60) || len(words) > 200 {
		return impl.Game{}, false
	}
	return slowPlayAll(seats, seed, heardRows(seats, frames, firstHeard(seats, words)))
}

func slowGameSum(g impl.Game) (int, bool) {
	if !slowGoodGame(g) {
		return 0, false
	}
	sum := int64(7)
	for _, number := range gameParts(&g) {
		sum = (31*sum + int64(*number)) % 1000003
	}
	return int(sum), true
}

func slowSplit(a []int, b []int) (int, bool) {
	if max(len(a), len(b)) > 60 {
		return 0, false
	}
	split := -1
	for i := min(len(a), len(b)) - 1; i >= 0; i-- {
		if a[i] != b[i] {
			split = i
		}
	}
	return split, true
}

func slowHost(seats []bool, host int) (int, bool) {
	if !within(1, len(seats), 4) || !within(0, host, len(seats)-1) {
		return 0, false
	}
	// All seats twice over, so that going round is going on.
	at := slices.Index(slices.Concat(seats, seats)[host:], true)
	if at < 0 {
		return -1, true
	}
	return (host + at) % len(seats), true
}

func wantGoodGame(t *testing.T, what string, g impl.Game, want bool) {
	t.Helper()
	if got := purely(t, "GoodGame", impl.GoodGame, g); got[0] != want || slowGoodGame(g) != want {
		t.Errorf("%s: GoodGame %v = %v, want %v", what, g, got, want)
	}
}

func wantStart(t *testing.T, what string, seats int, seed int) {
	t.Helper()
	want, good := slowStart(seats, seed)
	if got := purely(t, "StartGame", impl.StartGame, seats, seed); !alike(got[0], want) || got[1] != good {
		t.Errorf("%s: StartGame %d, %d = %v, want %v, %v", what, seats, seed, got, want, good)
	}
}

func wantGameStep(t *testing.T, what string, g impl.Game, inputs []int, want impl.Game, good bool) {
	t.Helper()
	if got := purely(t, "StepGame", impl.StepGame, g, inputs); !alike(got[0], want) || got[1] != good {
		t.Errorf("%s: StepGame %v, %v = %v, want %v, %v", what, g, inputs, got, want, good)
	}
}

func wantSlowGameStep(t *testing.T, what string, g impl.Game, inputs []int) {
	t.Helper()
	want, good := slowStepGame(g, inputs)
	wantGameStep(t, what, g, inputs, want, good)
}

func wantPlayed(t *testing.T, what string, seats int, seed int, inputs [][]int, want impl.Game, good bool) {
	t.Helper()
	if got := purely(t, "PlayAll", impl.PlayAll, seats, seed, inputs); !alike(got[0], want) || got[1] != good {
		t.Errorf("%s: PlayAll %d, %d, %v = %v, want %v, %v", what, seats, seed, inputs, got, want, good)
	}
}

func wantSlowPlayed(t *testing.T, what string, seats int, seed int, inputs [][]int) {
	t.Helper()
	want, good := slowPlayAll(seats, seed, inputs)
	wantPlayed(t, what, seats, seed, inputs, want, good)
}

func wantNewPeer(t *testing.T, what string, seats int, seed int) {
	t.Helper()
	want, good := slowNewPeer(seats, seed)
	if got := purely(t, "NewPeer", impl.NewPeer, seats, seed); !alike(got[0], want) || got[1] != good {
		t.Errorf("%s: NewPeer %d, %d = %v, want %v, %v", what, seats, seed, got, want, good)
	}
}

// wantSlowPeerStep asks for the next peer, and gives it.
func wantSlowPeerStep(t *testing.T, what string, p impl.Peer) impl.Peer {
	t.Helper()
	want, good := slowPeerStep(p)
	if got := purely(t, "PeerStep", impl.PeerStep, p); !alike(got[0], want) || got[1] != good {
		t.Errorf("%s: PeerStep %v = %v, want %v, %v", what, p, got, want, good)
	}
	return want
}

// wantSlowHears asks for the peer that has heard a word, and gives it and how many frames it did again.
func wantSlowHears(t *testing.T, what string, p impl.Peer, l impl.Late) (impl.Peer, int) {
	t.Helper()
	want, again, good := slowHears(p, l)
	if got := purely(t, "PeerHears", impl.PeerHears, p, l); !alike(got[0], want) || got[1] != again || got[2] != good {
		t.Errorf("%s: PeerHears %v, %v = %v, want %v, %d, %v", what, p, l, got, want, again, good)
	}
	return want, again
}

// wantNoPeer asks that a peer is refused, whatever it hears.
func wantNoPeer(t *testing.T, what string, p impl.Peer) {
	t.Helper()
	if slowGoodPeer(p) {
		t.Errorf("%s: a good peer: %v", what, p)
	}
	if got := purely(t, "PeerStep", impl.PeerStep, p); !alike(got[0], impl.Peer{}) || got[1] != false {
		t.Errorf("%s: PeerStep %v = %v", what, p, got)
	}
	for _, l := range []impl.Late{{}, word24(1, 0, 2), word24(40, 1, 0), word24(59, 0, 5)} {
		if got := purely(t, "PeerHears", impl.PeerHears, p, l); !alike(got[0], impl.Peer{}) || got[1] != 0 || got[2] != false {
			t.Errorf("%s: PeerHears %v, %v = %v", what, p, l, got)
		}
	}
}

func wantRunPeer(t *testing.T, what string, seats int, seed int, frames int, words []impl.Late, want impl.Game, good bool) {
	t.Helper()
	if got := purely(t, "RunPeer", impl.RunPeer, seats, seed, frames, words); !alike(got[0], want) || got[1] != good {
		t.Errorf("%s: RunPeer %d, %d, %d, %v = %v, want %v, %v", what, seats, seed, frames, words, got, want, good)
	}
}

func wantSlowRunPeer(t *testing.T, what string, seats int, seed int, frames int, words []impl.Late) {
	t.Helper()
	want, good := slowRunPeer(seats, seed, frames, words)
	wantRunPeer(t, what, seats, seed, frames, words, want, good)
}

func wantGameSum(t *testing.T, what string, g impl.Game, want int, good bool) {
	t.Helper()
	if got := purely(t, "GameSum", impl.GameSum, g); got[0] != want || got[1] != good {
		t.Errorf("%s: GameSum %v = %v, want %d, %v", what, g, got, want, good)
	}
}

func wantSlowGameSum(t *testing.T, what string, g impl.Game) {
	t.Helper()
	want, good := slowGameSum(g)
	wantGameSum(t, what, g, want, good)
}

func wantSplit(t *testing.T, what string, a []int, b []int, want int, good bool) {
	t.Helper()
	if got := purely(t, "FirstSplit", impl.FirstSplit, a, b); got[0] != want || got[1] != good {
		t.Errorf("%s: FirstSplit %v, %v = %v, want %d, %v", what, a, b, got, want, good)
	}
}

func wantSlowSplit(t *testing.T, what string, a []int, b []int) {
	t.Helper()
	want, good := slowSplit(a, b)
	wantSplit(t, what, a, b, want, good)
}

func wantHost(t *testing.T, what string, seats []bool, host int, want int, good bool) {
	t.Helper()
	if got := purely(t, "NextHost", impl.NextHost, seats, host); got[0] != want || got[1] != good {
		t.Errorf("%s: NextHost %v, %d = %v, want %d, %v", what, seats, host, got, want, good)
	}
}

func wantSlowHost(t *testing.T, what string, seats []bool, host int) {
	t.Helper()
	want, good := slowHost(seats, host)
	wantHost(t, what, seats, host, want, good)
}

func TestBackConstants(t *testing.T) {
	if impl.MaxSeats != mostSeats || impl.MaxFrames24 != mostGameFrames || impl.MaxLate != mostLate {
		t.Error(impl.MaxSeats, impl.MaxFrames24, impl.MaxLate)
	}
}

func goodGames() map[string]impl.Game {
	return map[string]impl.Game{
		"one seat":             gameOf(0, 0, "5,6,7"),
		"the least numbers":    gameOf(0, 0, "0,0,0"),
		"the greatest numbers": gameOf(mostGameFrames, lastSeed, "63,63,9 63,63,9 63,63,9 63,63,9"),
		"the last step":        gameOf(mostGameFrames-1, lastSeed, "63,63,9 0,0,0"),
		"as many as may be":    gameOf(7, 12345, "0,63,1 63,0,2 31,32,8 9,9,9"),
		"all at one place":     gameOf(30, 1, "9,9,9 9,9,9 9,9,9"),
		"nobody has Hp":        gameOf(1, 2, "9,9,0 9,9,0"),
	}
}

func badGames() map[string]impl.Game {
	out := map[string]impl.Game{
		"nothing":                 {},
		"no seats":                gameOf(3, 5, ""),
		"a seat too many":         {Frame: 3, Coin: 5, Seats: seatRow(mostSeats + 1)},
		"far too many seats":      {Frame: 3, Coin: 5, Seats: seatRow(40)},
		"very many seats":         {Frame: 3, Coin: 5, Seats: make([]impl.Seat, 256)},
		"a Frame below 0":         gameOf(-1, 5, "5,5,5"),
		"a Frame too many":        gameOf(mostGameFrames+1, 5, "5,5,5"),
		"a Coin below 0":          gameOf(3, -1, "5,5,5"),
		"a Coin that is too much": gameOf(3, lastSeed+1, "5,5,5"),
		"X below 0":               gameOf(3, 5, "-1,5,5"),
		"X beyond":                gameOf(3, 5, "64,5,5"),
		"Y below 0":               gameOf(3, 5, "5,-1,5"),
		"Y beyond":                gameOf(3, 5, "5,64,5"),
		"Hp below 0":              gameOf(3, 5, "5,5,-1"),
		"Hp beyond":               gameOf(3, 5, "5,5,10"),
	}
	for at := range mostSeats {
		for what, bad := range map[string]string{"X": "64,5,5", "Y": "5,-1,5", "Hp": "5,5,10"} {
			seats := seatRow(mostSeats)
			seats[at] = seatsOf(bad)[0]
			out[fmt.Sprint(what, " of seat ", at)] = impl.Game{Frame: 3, Coin: 5, Seats: seats}
		}
	}
	return out
}

func TestGoodGames(t *testing.T) {
	for what, g := range goodGames() {
		wantGoodGame(t, what, g, true)
		wantSlowGameSum(t, what, g)
		for input := range 6 {
			wantSlowGameStep(t, what, g, slices.Repeat([]int{input}, len(g.Seats)))
		}
	}
	for what, g := range badGames() {
		wantGoodGame(t, what, g, false)
		wantGameSum(t, what, g, 0, false)
		for input := range 6 {
			wantGameStep(t, what, g, slices.Repeat([]int{input}, len(g.Seats)), impl.Game{}, false)
		}
		wantGameStep(t, what, g, nil, impl.Game{}, false)
	}
}

// gameNumbersAsked holds numbers on both sides of the limits of all parts of a game.
func gameNumbersAsked() []int {
	return append(farNumbers(), -lastSeed, -64, -60, -10, -9, -1, 0, 1, 2, 8, mostSeatHp, 10, 31, 32, 58, 59, mostGameFrames, 61, 62, lastGameSpot, 64, 65, 255, 256, 265,
		lastSeed-1, lastSeed, lastSeed+1, 1<<32, 1<<32+5, 1<<63-60)
}

func TestGoodGamesWithOneNumberChanged(t *testing.T) {
	for _, base := range []impl.Game{gameOf(3, 5, "5,5,5"), gameOf(59, 77, "5,5,5 6,6,6 7,7,7 8,8,8")} {
		for at := range gameParts(&base) {
			for _, number := range gameNumbersAsked() {
				g := withGame(base, func(g *impl.Game) { *gameParts(g)[at] = number })
				wantGoodGame(t, "a number", g, slowGoodGame(g))
				wantSlowGameSum(t, "a number", g)
				wantSlowGameStep(t, "a number", g, slices.Repeat([]int{strikes}, len(g.Seats)))
				wantSlowGameStep(t, "a number", g, slices.Repeat([]int{2}, len(g.Seats)))
			}
		}
	}
}

// startsAsked holds how many seats, and seeds, on both sides of each limit.
func startsAsked() ([]int, []int) {
	seats := append(farNumbers(), -4, -1, 0, 1, 2, 3, mostSeats, mostSeats+1, 256, 257, 1<<32, 1<<32+1)
	return seats, append(notSeeds(), 0, 1, 2, 65536, 1<<30, lastSeed-1, lastSeed)
}

func TestStarts(t *testing.T) {
	seatsAsked, seedsAsked := startsAsked()
	for _, seats := range seatsAsked {
		for _, seed := range seedsAsked {
			wantStart(t, "a start", seats, seed)
			wantSlowPlayed(t, "a start", seats, seed, nil)
			wantNewPeer(t, "a start", seats, seed)
			wantSlowRunPeer(t, "a start", seats, seed, 0, nil)
			wantSlowRunPeer(t, "a start", seats, seed, 2, []impl.Late{word24(0, 0, 2)})
			many := max(1, min(seats, 5))
			wantSlowPlayed(t, "a start", seats, seed, [][]int{slices.Repeat([]int{2}, many)})
		}
	}
	g, good := impl.StartGame(3, 9)
	if !good || !alike(g, gameOf(0, 9, "0,0,9 8,8,9 16,16,9")) {
		t.Error(g, good)
	}
}

// seedOfSides gives a seed whose first coins are even or odd, as `e` and `o` say.
func seedOfSides(sides string) int {
	for seed := 1; ; seed++ {
		next, as := seed, true
		for _, side := range sides {
			var coin int
			next, coin = slowCoin(next)
			as = as && (coin%2 == 0) == (side == 'e')
		}
		if as {
			return seed
		}
	}
}

// seedBehind gives the seed behind so many coins.
func seedBehind(seed int, many int) int {
	for range many {
		seed, _ = slowCoin(seed)
	}
	return seed
}

func stepsTold() []struct{ what, sides, before, inputs, after string } {
	return []struct{ what, sides, before, inputs, after string }{
		{"nothing", "", "5,5,9", "0", "5,5,9"},
		{"x less", "", "5,5,9", "1", "4,5,9"},
		{"x more", "", "5,5,9", "2", "6,5,9"},
		{"y less", "", "5,5,9", "3", "5,4,9"},
		{"y more", "", "5,5,9", "4", "5,6,9"},
		{"a strike alone", "", "5,5,9", "5", "5,5,9"},
		{"each its own", "", "10,10,9 20,20,9 30,30,9 40,40,9", "1234", "9,10,9 21,20,9 30,29,9 40,41,9"},
		{"with Hp 1", "", "5,5,1", "2", "6,5,1"},
		{"x less with Hp 0", "", "5,5,0", "1", "5,5,0"},
		{"x more with Hp 0", "", "5,5,0", "2", "5,5,0"},
		{"y less with Hp 0", "", "5,5,0", "3", "5,5,0"},
		{"y more with Hp 0", "", "5,5,0", "4", "5,5,0"},
		{"cut at x 0", "", "0,5,9", "1", "0,5,9"},
		{"cut at x 63", "", "63,5,9", "2", "63,5,9"},
		{"cut at y 0", "", "5,0,9", "3", "5,0,9"},
		{"cut at y 63", "", "5,63,9", "4", "5,63,9"},
		{"to x 0", "", "1,5,9", "1", "0,5,9"},
		{"to x 63", "", "62,5,9", "2", "63,5,9"},
		{"to y 0", "", "5,1,9", "3", "5,0,9"},
		{"to y 63", "", "5,62,9", "4", "5,63,9"},
		{"from x 0", "", "0,5,9", "2", "1,5,9"},
		{"from x 63", "", "63,5,9", "1", "62,5,9"},
		{"through one another", "", "5,5,9 6,5,9", "21", "6,5,9 5,5,9"},
		{"to one place", "", "5,5,9 7,5,9", "21", "6,5,9 6,5,9"},
		{"an even coin", "e", "5,5,9 5,6,9", "50", "5,5,9 5,6,8"},
		{"an odd coin", "o", "5,5,9 5,6,9", "50", "5,5,9 5,6,9"},
		{"the other one strikes", "e", "5,5,9 5,6,9", "05", "5,5,8 5,6,9"},
		{"at one place", "e", "5,5,9 5,5,9", "50", "5,5,9 5,5,8"},
		{"over the corner", "e", "5,5,9 6,6,9", "50", "5,5,9 6,6,8"},
		{"over the other corner", "e", "5,5,9 4,6,9", "50", "5,5,9 4,6,8"},
		{"two beside", "", "5,5,9 7,5,9", "50", "5,5,9 7,5,9"},
		{"two above", "", "5,5,9 5,3,9", "50", "5,5,9 5,3,9"},
		{"one and two", "", "5,5,9 6,7,9", "50", "5,5,9 6,7,9"},
		{"two and one", "", "5,5,9 3,4,9", "50", "5,5,9 3,4,9"},
		{"far along one", "", "5,5,9 5,60,9", "50", "5,5,9 5,60,9"},
		{"to Hp 0", "e", "5,5,9 5,6,1", "50", "5,5,9 5,6,0"},
		{"Hp 0 that is struck", "e", "5,5,9 5,6,0", "50", "5,5,9 5,6,0"},
		{"Hp 0 that is struck takes a coin", "oe", "5,5,9 5,6,0 6,5,4", "500", "5,5,9 5,6,0 6,5,3"},
		{"Hp 0 that is struck takes an even coin", "eo", "5,5,9 5,6,0 6,5,4", "500", "5,5,9 5,6,0 6,5,4"},
		{"Hp 0 strikes not", "", "5,5,0 5,6,9", "50", "5,5,0 5,6,9"},
		{"Hp 0 takes no coin to strike", "oe", "5,5,0 5,6,9 5,7,3", "550", "5,5,0 5,6,9 5,7,2"},
		{"both strike, with Hp 1", "ee", "5,5,1 5,6,1", "55", "5,5,0 5,6,0"},
		{"both strike, the first meets", "eo", "5,5,1 5,6,1", "55", "5,5,1 5,6,0"},
		{"both strike, the second meets", "oe", "5,5,1 5,6,1", "55", "5,5,0 5,6,1"},
		{"both strike, none meets", "oo", "5,5,1 5,6,1", "55", "5,5,1 5,6,1"},
		{"three are struck", "eoe", "5,5,9 4,4,9 6,6,9 5,6,9", "5000", "5,5,9 4,4,8 6,6,9 5,6,8"},
		{"three are struck by the third", "eeo", "4,4,9 6,6,9 5,5,9 5,6,9", "0050", "4,4,8 6,6,8 5,5,9 5,6,9"},
		{"those not near take no coin", "eo", "5,5,9 9,9,9 6,6,9 5,6,9", "5000", "5,5,9 9,9,9 6,6,8 5,6,9"},
		{"one is struck by two", "ee", "5,5,9 6,6,9 4,4,9", "055", "5,5,7 6,6,9 4,4,9"},
		{"one is struck by three, two of them by others", "eeeeeee", "4,5,9 6,5,9 5,6,9 5,5,7", "5550", "4,5,8 6,5,8 5,6,7 5,5,4"},
		{"one is struck to 0 and on", "ee", "5,5,1 4,4,2 6,6,9", "055", "5,5,0 4,4,2 6,6,9"},
		{"a step away ahead of the strike", "", "5,5,9 6,5,9", "52", "5,5,9 7,5,9"},
		{"a step near ahead of the strike", "e", "5,5,9 7,5,9", "51", "5,5,9 6,5,8"},
		{"a step ahead of a later strike", "e", "5,5,9 7,5,9", "25", "6,5,8 7,5,9"},
		{"no step with Hp 0 ahead of the strike", "e", "5,5,9 6,5,0", "52", "5,5,9 6,5,0"},
		{"a step that is cut", "e", "0,5,9 1,5,9", "15", "0,5,8 1,5,9"},
	}
}

func TestStepsTold(t *testing.T) {
	for _, c := range stepsTold() {
		seed := seedOfSides(c.sides)
		want := gameOf(13, seedBehind(seed, len(c.sides)), c.after)
		wantGameStep(t, c.what, gameOf(12, seed, c.before), inputRow(c.inputs), want, true)
		wantSlowGameStep(t, c.what, gameOf(12, seed, c.before), inputRow(c.inputs))
	}
}

func TestStepsOfEachInputAtEachPlace(t *testing.T) {
	spots := []int{0, 1, 2, 31, 32, 61, 62, 63}
	for _, x := range spots {
		for _, y := range spots {
			for _, hp := range []int{0, 1, 9} {
				for _, input := range []int{-1, 0, 1, 2, 3, 4, 5, 6} {
					g := impl.Game{Frame: 8, Coin: 3, Seats: []impl.Seat{{X: x, Y: y, Hp: hp}}}
					wantSlowGameStep(t, "one seat", g, []int{input})
					g.Seats = append(g.Seats, impl.Seat{X: y, Y: x, Hp: 3})
					wantSlowGameStep(t, "the first of two", g, []int{input, 0})
					wantSlowGameStep(t, "the second of two", g, []int{strikes, input})
				}
			}
		}
	}
}

// Seats stand at each distance up to 3 of one another, at the edges and amidst.
func TestStrikesAtEachDistance(t *testing.T) {
	met := 0
	for _, at := range [][2]int{{30, 30}, {3, 3}, {60, 60}} {
		for dx := -3; dx <= 3; dx++ {
			for dy := -3; dy <= 3; dy++ {
				other := impl.Seat{X: at[0] + dx, Y: at[1] + dy, Hp: 5}
				g := impl.Game{Coin: seedOfSides("ee"), Seats: []impl.Seat{{X: at[0], Y: at[1], Hp: 5}, other}}
				near := max(dx, -dx, dy, -dy) <= 1
				for _, inputs := range []string{"50", "05", "55", "00"} {
					then, _ := impl.StepGame(g, inputRow(inputs))
					if (then.Seats[1].Hp == 4) != (near && inputs[0] == '5') || (then.Seats[0].Hp == 4) != (near && inputs[1] == '5') {
						t.Error(g, inputs, then)
					}
					wantSlowGameStep(t, "a distance", g, inputRow(inputs))
				}
				if near {
					met++
				}
			}
		}
	}
	if met != 27 {
		t.Error(met)
	}
}

// Three seats near one another do all that three can, with much Hp, little and none.
func TestStepsOfAllInputs(t *testing.T) {
	for _, seats := range []string{"5,5,9 6,5,9 6,6,9", "5,5,1 5,5,1 5,5,1", "5,5,0 6,5,1 7,5,2", "0,0,2 1,0,0 1,1,1", "63,63,1 61,63,1 62,62,3"} {
		for _, coin := range []int{0, 1, 2, lastSeed, seedOfSides("eeee"), seedOfSides("oeoe"), seedOfSides("eoeo")} {
			for all := range 216 {
				inputs := []int{all % 6, all / 6 % 6, all / 36}
				wantSlowGameStep(t, "all inputs", gameOf(0, coin, seats), inputs)
			}
		}
	}
}

// coinGame gives a game whose seats stand near one another.
func coinGame(next func(int) int, frame int) impl.Game {
	g := impl.Game{Frame: frame, Coin: next(4096)<<19 + next(4096)}
	x, y, wide := next(61), next(61), 1+next(4)
	for range 1 + next(mostSeats) {
		hp := coinOf(next, []int{0, 1, 1, 2, next(10), 9})
		g.Seats = append(g.Seats, impl.Seat{X: min(63, x+next(wide)), Y: min(63, y+next(wide)), Hp: hp})
	}
	return g
}

// coinInputs gives inputs of which many are strikes.
func coinInputs(next func(int) int, seats int) []int {
	var out []int
	for range seats {
		out = append(out, coinOf(next, []int{0, 1, 2, 3, 4, strikes, strikes, strikes}))
	}
	return out
}

func TestStepsByCoins(t *testing.T) {
	struck, lost := 0, 0
	for seed := range 4000 {
		next := coinRow(seed + 24000)
		g := coinGame(next, next(60))
		inputs := coinInputs(next, len(g.Seats))
		wantSlowGameStep(t, "coins", g, inputs)
		then, _ := impl.StepGame(g, inputs)
		if then.Coin != g.Coin {
			struck++
		}
		for i, s := range then.Seats {
			lost += g.Seats[i].Hp - s.Hp
		}
	}
	if struck < 1500 || lost < 1500 {
		t.Error(struck, lost)
	}
}

func TestStepsOfWrongInputs(t *testing.T) {
	for seats := 1; seats <= mostSeats; seats++ {
		g := impl.Game{Frame: 3, Coin: 7, Seats: seatRow(seats)}
		for many := range 9 {
			wantSlowGameStep(t, "so many inputs", g, slices.Repeat([]int{strikes}, many))
		}
		wantGameStep(t, "none", g, nil, impl.Game{}, false)
		wantGameStep(t, "very many", g, make([]int, 256+seats), impl.Game{}, false)
		for at := range seats {
			for _, input := range append(farNumbers(), -6, -2, -1, 0, 1, 2, 3, 4, 5, 6, 7, 10, 256, 257, 1<<32+1) {
				inputs := make([]int, seats)
				inputs[at] = input
				wantSlowGameStep(t, "an input", g, inputs)
			}
		}
	}
}

// The last frame is stepped to and not beyond.
func TestStepsToTheLastFrame(t *testing.T) {
	for frame := range mostGameFrames + 1 {
		g := impl.Game{Frame: frame, Coin: 7, Seats: seatRow(3)}
		then, good := impl.StepGame(g, []int{0, 0, 5})
		if good != (frame < mostGameFrames) || good && then.Frame != frame+1 {
			t.Error(frame, then, good)
		}
		wantSlowGameStep(t, "a frame", g, []int{0, 0, 5})
	}
}

func TestPlayedTold(t *testing.T) {
	for _, c := range []struct {
		what, inputs string
		seats, seed  int
		seatsAfter   string
	}{
		{"no lists", "", 2, 1, "0,0,9 8,8,9"},
		{"one list", "21", 2, 1, "1,0,9 7,8,9"},
		{"two lists", "21 21", 2, 1, "2,0,9 6,8,9"},
		{"each on its way", "2414 2414 2424", 4, 5, "3,0,9 8,11,9 15,16,9 24,27,9"},
		{"out of the ground", "1 3 1 3 2", 1, 0, "1,0,9"},
		{"strikes at nobody", "55 55 55", 2, 9, "0,0,9 8,8,9"},
	} {
		want := gameOf(len(inputRows(c.inputs)), c.seed, c.seatsAfter)
		wantPlayed(t, c.what, c.seats, c.seed, inputRows(c.inputs), want, true)
		wantSlowPlayed(t, c.what, c.seats, c.seed, inputRows(c.inputs))
	}
	// Both go towards the midst, and strike one another where they meet.
	meeting := strings.Repeat("21 ", 4) + strings.Repeat("43 ", 3) + "40 55"
	seed := seedOfSides("eo")
	wantPlayed(t, "they meet", 2, seed, inputRows(meeting), gameOf(9, seedBehind(seed, 2), "4,4,9 4,5,8"), true)
}

// coinLists gives a list of inputs for each of so many frames; seats go towards one another and strike.
func coinLists(next func(int) int, seats int, frames int) [][]int {
	var out [][]int
	for frame := range frames {
		row := make([]int, seats)
		for seat := range row {
			row[seat] = coinOf(next, []int{next(6), 2 + 2*next(2), strikes})
			if seat > 0 && frame < 10*seat {
				row[seat] = 1 + 2*next(2)
			}
		}
		out = append(out, row)
	}
	return out
}

func TestPlayedByCoins(t *testing.T) {
	struck := 0
	for seed := range 600 {
		next := coinRow(seed + 24100)
		seats, start := 1+next(mostSeats), next(4096)<<19+next(4096)
		inputs := coinLists(next, seats, coinOf(next, []int{0, 1, next(61), 60, 60}))
		wantSlowPlayed(t, "coins", seats, start, inputs)
		g, _ := impl.StartGame(seats, start)
		for _, list := range inputs {
			g, _ = impl.StepGame(g, list)
		}
		wantPlayed(t, "list by list", seats, start, inputs, g, true)
		if g.Coin != start {
			struck++
		}
	}
	if struck < 120 {
		t.Error(struck)
	}
}

// As many lists as there are frames are played, and one more are not.
func TestPlayedToTheEnd(t *testing.T) {
	for _, many := range []int{0, 1, 59, mostGameFrames, mostGameFrames + 1, 62, 120, 256, 1000} {
		inputs := slices.Repeat([][]int{{2, 1}}, many)
		g, good := impl.PlayAll(2, 1, inputs)
		if good != (many <= mostGameFrames) || good && (g.Frame != many || g.Seats[0].X != many || g.Seats[1].X != max(0, 8-many)) {
			t.Error(many, g, good)
		}
		wantSlowPlayed(t, "so many lists", 2, 1, inputs)
	}
}

// One list of many is not good, at each place.
func TestPlayedWithAWrongList(t *testing.T) {
	wrongs := map[string][]int{"short": {2, 5}, "long": {2, 5, 1, 0}, "none": nil, "below 0": {2, -1, 0}, "above": {6, 0, 0}, "the last above": {0, 0, 6}, "far": {0, 1 << 32, 0}}
	for what, wrong := range wrongs {
		for _, many := range []int{1, 2, 7, 59, mostGameFrames} {
			for at := range many {
				inputs := slices.Repeat([][]int{{2, 5, 1}}, many)
				inputs[at] = wrong
				wantPlayed(t, what, 3, 1, inputs, impl.Game{}, false)
				wantSlowPlayed(t, what, 3, 1, inputs[:at])
			}
		}
	}
	wantPlayed(t, "of fewer seats", 2, 1, [][]int{{0, 0, 0}}, impl.Game{}, false)
	wantPlayed(t, "no seats", 0, 1, [][]int{nil}, impl.Game{}, false)
	wantPlayed(t, "no seats", 0, 1, nil, impl.Game{}, false)
	wantPlayed(t, "a seat too many", 5, 1, [][]int{{0, 0, 0, 0, 0}}, impl.Game{}, false)
}

// wordOf reads a word like `3.1=5`: the frame, the seat and the input.
func wordOf(text string) impl.Late {
	var l impl.Late
	if _, err := fmt.Sscanf(text, "%d.%d=%d", &l.Frame, &l.Seat, &l.Input); err != nil {
		panic(text)
	}
	return l
}

func lateWords(words string) []impl.Late {
	var out []impl.Late
	for _, word := range strings.Fields(words) {
		out = append(out, wordOf(word))
	}
	return out
}

// peerBy gives a new peer that has done what is written: `s` is a step, `s5` five of them, all else a word that it hears.
func peerBy(seats int, seed int, doings string) impl.Peer {
	p, good := slowNewPeer(seats, seed)
	for _, doing := range strings.Fields(doings) {
		many := 1
		if _, err := fmt.Sscanf(doing, "s%d", &many); err != nil && doing != "s" {
			p, _, good = slowHears(p, wordOf(doing))
			many = 0
		}
		for range many {
			p, good = slowPeerStep(p)
		}
		if !good {
			panic(doing)
		}
	}
	return p
}

func TestNewPeersKnowNothing(t *testing.T) {
	for seats := 1; seats <= mostSeats; seats++ {
		p, good := impl.NewPeer(seats, 17)
		start, _ := impl.StartGame(seats, 17)
		if !good || !alike(p.Game, start) || len(p.Past) != 0 || len(p.Inputs) != mostGameFrames || len(p.Known) != mostGameFrames {
			t.Error(seats, p, good)
		}
		for frame := range mostGameFrames {
			if !slices.Equal(p.Inputs[frame], make([]int, seats)) || !slices.Equal(p.Known[frame], make([]bool, seats)) {
				t.Error(seats, frame, p)
			}
		}
	}
}

// A peer that hears nothing goes to the last frame, and no further.
func TestPeersStepToTheEnd(t *testing.T) {
	for _, words := range []string{"", "0.0=2 0.1=4 7.0=4 30.1=5 59.0=2", "58.1=1"} {
		p := peerBy(2, 9, words)
		for frame := range mostGameFrames {
			if then := wantSlowPeerStep(t, words, p); then.Game.Frame != frame+1 || !alike(then.Past[frame], p.Game) {
				t.Error(words, frame, then)
			} else {
				p = then
			}
		}
		wantSlowPeerStep(t, "behind the last frame", p)
		if got := purely(t, "PeerStep", impl.PeerStep, p); !alike(got[0], impl.Peer{}) || got[1] != false {
			t.Error(words, got)
		}
	}
}

func hearingsTold() []struct {
	what, doings, word string
	again              int
	seats              string
} {
	const refused = -1
	return []struct {
		what, doings, word string
		again              int
		seats              string
	}{
		{"ahead of any step", "", "0.0=2", 0, "0,0,9 8,8,9"},
		{"of the first frame, behind", "s3", "0.1=1", 3, "0,0,9 5,8,9"},
		{"of the second frame", "s3", "1.1=1", 2, "0,0,9 6,8,9"},
		{"of the last one that was stepped", "s3", "2.1=1", 1, "0,0,9 7,8,9"},
		{"of the frame where it is", "s3", "3.1=1", 0, "0,0,9 8,8,9"},
		{"of a frame ahead", "s3", "4.1=1", 0, "0,0,9 8,8,9"},
		{"of the last frame, ahead", "s3", "59.1=1", 0, "0,0,9 8,8,9"},
		{"of the last frame, behind", "s60", "59.1=1", 1, "0,0,9 7,8,9"},
		{"of the first frame, at the end", "s60", "0.1=3", 60, "0,0,9 8,0,9"},
		{"as guessed without one", "s3", "1.0=0", 0, "0,0,9 8,8,9"},
		{"as guessed by one ahead", "0.0=2 s4", "3.0=2", 0, "4,0,9 8,8,9"},
		{"as guessed by one far ahead", "0.0=2 s60", "59.0=2", 0, "60,0,9 8,8,9"},
		{"as guessed, not of the other seat", "0.0=2 s4", "3.1=2", 1, "4,0,9 9,8,9"},
		{"not as guessed by one ahead", "0.0=2 s4", "3.0=4", 1, "3,1,9 8,8,9"},
		{"0, not as guessed", "0.0=2 s4", "2.0=0", 2, "2,0,9 8,8,9"},
		{"0 ahead of all", "2.0=2 s4", "0.0=0", 0, "2,0,9 8,8,9"},
		{"up to the next one heard", "0.0=2 3.0=4 s6", "1.0=0", 5, "1,3,9 8,8,9"},
		{"up to the next one, as guessed", "0.0=2 3.0=4 s6", "1.0=2", 0, "3,3,9 8,8,9"},
		{"up to the next one that is the same", "0.0=2 3.0=2 s6", "2.0=4", 4, "5,1,9 8,8,9"},
		{"right ahead of the next one", "0.0=2 3.0=4 s6", "2.0=1", 4, "1,3,9 8,8,9"},
		{"right behind the last one", "0.0=2 3.0=4 s6", "4.0=1", 2, "1,1,9 8,8,9"},
		{"ahead of the next one, not stepped yet", "5.0=4 s3", "1.0=2", 2, "2,0,9 8,8,9"},
		{"without effect, done again all the same", "s3", "0.0=1", 3, "0,0,9 8,8,9"},
		{"another kind of nothing", "s3", "0.0=5", 3, "0,0,9 8,8,9"},
		{"heard already", "s3 1.0=2", "1.0=2", refused, ""},
		{"heard already, otherwise", "s3 1.0=2", "1.0=3", refused, ""},
		{"heard already as nothing", "s3 1.0=0", "1.0=2", refused, ""},
		{"heard already, ahead", "9.0=2", "9.0=2", refused, ""},
		{"heard already, of the last frame", "59.1=2", "59.1=0", refused, ""},
		{"heard of the other seat", "s3 1.0=2", "1.1=2", 2, "2,0,9 10,8,9"},
		{"a frame below 0", "s3", "-1.0=2", refused, ""},
		{"a frame too many", "s60", "60.0=2", refused, ""},
		{"a seat below 0", "s3", "1.-1=2", refused, ""},
		{"a seat too many", "s3", "1.2=2", refused, ""},
		{"an input below 0", "s3", "1.0=-1", refused, ""},
		{"an input too much", "s3", "1.0=6", refused, ""},
	}
}

func TestHearingsTold(t *testing.T) {
	for _, c := range hearingsTold() {
		p := peerBy(2, 1, c.doings)
		got := purely(t, "PeerHears", impl.PeerHears, p, wordOf(c.word))
		wantSlowHears(t, c.what, p, wordOf(c.word))
		then := got[0].(impl.Peer)
		if c.again < 0 {
			if !alike(then, impl.Peer{}) || got[1] != 0 || got[2] != false {
				t.Error(c.what, got)
			}
			continue
		}
		if got[1] != c.again || got[2] != true || !alike(then.Game, gameOf(p.Game.Frame, 1, c.seats)) {
			t.Error(c.what, got)
		}
		l := wordOf(c.word)
		if !then.Known[l.Frame][l.Seat] || then.Inputs[l.Frame][l.Seat] != l.Input {
			t.Error(c.what, got)
		}
	}
}

// A strike that comes late is struck with its own coin, and all coins behind it are others.
func TestALateStrike(t *testing.T) {
	seed := seedOfSides("eooe")
	p := peerBy(2, seed, "0.0=2 4.0=4 7.0=0 0.1=1 4.1=3 8.1=5 9.1=0 s10")
	if !alike(p.Game, gameOf(10, seedBehind(seed, 1), "4,3,8 4,4,9")) {
		t.Fatal(p.Game)
	}
	then, again := wantSlowHears(t, "a strike ahead", p, word24(8, 0, strikes))
	if again != 2 || !alike(then.Game, gameOf(10, seedBehind(seed, 3), "4,3,9 4,4,8")) {
		t.Error(again, then.Game)
	}
	then, again = wantSlowHears(t, "no strike any more", then, word24(9, 0, 0))
	if again != 1 || !alike(then.Game, gameOf(10, seedBehind(seed, 2), "4,3,9 4,4,8")) {
		t.Error(again, then.Game)
	}
}

// One word of each frame, seat and input, for peers at the beginning, amidst and at the end.
func TestHearingsOfEachWord(t *testing.T) {
	counts := map[bool]int{}
	for _, doings := range []string{"0.0=2 3.0=4 20.1=5", "0.0=2 3.0=4 20.1=5 40.1=0 s20", "0.0=2 0.1=4 7.1=5 59.0=1 s60"} {
		p := peerBy(2, 4, doings)
		for frame := -1; frame <= mostGameFrames; frame++ {
			for seat := -1; seat <= 2; seat++ {
				for _, input := range []int{-1, frame % 6, 5 - frame%6, 6} {
					if frame%6 == 3 || seat == 1 && input < 5 {
						continue
					}
					_, again := wantSlowHears(t, "each word", p, word24(frame, seat, input))
					counts[again > 0]++
				}
			}
		}
	}
	if counts[true] < 60 || counts[false] < 60 {
		t.Error(counts)
	}
}

// wordNumbersAsked holds numbers on both sides of the limits of a word.
func wordNumbersAsked() []int {
	return append(farNumbers(), -61, -6, -2, -1, 0, 1, 2, 3, 4, 5, 6, 7, 9, 10, 58, 59, mostGameFrames, 61, 255, 256, 257, 1<<32, 1<<32+1)
}

func TestHearingsWithOneNumberChanged(t *testing.T) {
	p := peerBy(3, 4, "0.0=2 3.0=4 20.1=5 s10")
	for _, number := range wordNumbersAsked() {
		wantSlowHears(t, "a frame", p, word24(number, 1, 2))
		wantSlowHears(t, "a seat", p, word24(4, number, 2))
		wantSlowHears(t, "an input", p, word24(4, 2, number))
	}
}

// sizedPeer gives a peer that fits in its bounds, with so many seats, at a frame, even where there may be none so.
func sizedPeer(seats int, frame int, frames int) impl.Peer {
	at := func(frame int) impl.Game { return impl.Game{Frame: frame, Coin: 5, Seats: seatRow(seats)} }
	p := impl.Peer{Game: at(frame)}
	for range frames {
		p.Inputs, p.Known = append(p.Inputs, make([]int, seats)), append(p.Known, make([]bool, seats))
	}
	for past := range frame {
		p.Past = append(p.Past, at(past))
	}
	return p
}

// badPeerChanges holds what makes a peer of three seats at frame 5 that has heard some words a bad one.
func badPeerChanges() map[string]func(*impl.Peer) {
	out := map[string]func(*impl.Peer){
		"nothing":                 func(p *impl.Peer) { *p = impl.Peer{} },
		"no Inputs":               func(p *impl.Peer) { p.Inputs = nil },
		"no Known":                func(p *impl.Peer) { p.Known = nil },
		"no Past":                 func(p *impl.Peer) { p.Past = nil },
		"a list of Inputs less":   func(p *impl.Peer) { p.Inputs = p.Inputs[:59] },
		"a list of Inputs more":   func(p *impl.Peer) { p.Inputs = append(p.Inputs, make([]int, 3)) },
		"a list of Known less":    func(p *impl.Peer) { p.Known = p.Known[:59] },
		"a list of Known more":    func(p *impl.Peer) { p.Known = append(p.Known, make([]bool, 3)) },
		"a list of both less":     func(p *impl.Peer) { p.Inputs, p.Known = p.Inputs[:59], p.Known[:59] },
		"a list of both more":     func(p *impl.Peer) { *p = sizedPeer(3, 5, 61) },
		"no list of both":         func(p *impl.Peer) { p.Inputs, p.Known = nil, nil },
		"a Past less":             func(p *impl.Peer) { p.Past = p.Past[:4] },
		"a Past more":             func(p *impl.Peer) { p.Past = append(p.Past, withGame(p.Game, func(*impl.Game) {})) },
		"the first Past less":     func(p *impl.Peer) { p.Past = p.Past[1:] },
		"a Frame less":            func(p *impl.Peer) { p.Game.Frame-- },
		"a Frame more":            func(p *impl.Peer) { p.Game.Frame++ },
		"a Past's Frame less":     func(p *impl.Peer) { p.Past[4].Frame-- },
		"a Past's Frame more":     func(p *impl.Peer) { p.Past[4].Frame++ },
		"the first Frame not 0":   func(p *impl.Peer) { p.Past[0].Frame = 1 },
		"Pasts changed about":     func(p *impl.Peer) { p.Past[1], p.Past[2] = p.Past[2], p.Past[1] },
		"a Past twice":            func(p *impl.Peer) { p.Past[2] = p.Past[1] },
		"a Past of fewer seats":   func(p *impl.Peer) { p.Past[3].Seats = p.Past[3].Seats[:2] },
		"a Past of more seats":    func(p *impl.Peer) { p.Past[3].Seats = append(p.Past[3].Seats, impl.Seat{}) },
		"a Past of no seats":      func(p *impl.Peer) { p.Past[0].Seats = nil },
		"all Pasts of more seats": func(p *impl.Peer) { p.Past = sizedPeer(4, 5, 0).Past },
		"a Game of fewer seats":   func(p *impl.Peer) { p.Game.Seats = p.Game.Seats[:2] },
		"a Game of more seats":    func(p *impl.Peer) { p.Game.Seats = append(p.Game.Seats, impl.Seat{}) },
		"no seats at all":         func(p *impl.Peer) { *p = sizedPeer(0, 5, 60) },
		"a seat too many":         func(p *impl.Peer) { *p = sizedPeer(5, 5, 60) },
		"a Frame below 0":         func(p *impl.Peer) { p.Game.Frame, p.Past = -1, nil },
		"a Frame too many":        func(p *impl.Peer) { *p = sizedPeer(3, 61, 60) },
		"a heard one not known":   func(p *impl.Peer) { p.Known[0][0] = false },
		"another one not known":   func(p *impl.Peer) { p.Known[20][2] = false },
		"all of no inputs":        func(p *impl.Peer) { p.Inputs = make([][]int, 60) },
		"all of no flags":         func(p *impl.Peer) { p.Known = make([][]bool, 60) },
	}
	for what, g := range badGames() {
		if !within(1, len(g.Seats), mostSeats) {
			continue
		}
		// All else fits.
		at := func(frame int) impl.Game {
			return withGame(g, func(g *impl.Game) {
				if within(0, g.Frame, mostGameFrames) {
					g.Frame = frame
				}
			})
		}
		out["the Game: "+what] = func(p *impl.Peer) {
			*p = sizedPeer(len(g.Seats), 5, mostGameFrames)
			p.Game = at(5)
		}
		for _, past := range []int{0, 3, 4} {
			out[fmt.Sprint("Past ", past, ": ", what)] = func(p *impl.Peer) {
				*p = sizedPeer(len(g.Seats), 5, mostGameFrames)
				p.Past[past] = at(past)
			}
		}
	}
	for _, at := range []int{0, 1, 4, 5, 30, 58, 59} {
		for what, change := range badRowChanges(at) {
			out[fmt.Sprint("list ", at, ": ", what)] = change
		}
	}
	return out
}

// badRowChanges holds what makes the lists of one frame bad ones.
func badRowChanges(at int) map[string]func(*impl.Peer) {
	out := map[string]func(*impl.Peer){
		"an input less":    func(p *impl.Peer) { p.Inputs[at] = p.Inputs[at][:2] },
		"an input more":    func(p *impl.Peer) { p.Inputs[at] = append(p.Inputs[at], 0) },
		"no inputs":        func(p *impl.Peer) { p.Inputs[at] = nil },
		"a flag less":      func(p *impl.Peer) { p.Known[at] = p.Known[at][:2] },
		"a flag more":      func(p *impl.Peer) { p.Known[at] = append(p.Known[at], false) },
		"no flags":         func(p *impl.Peer) { p.Known[at] = nil },
		"both less":        func(p *impl.Peer) { p.Inputs[at], p.Known[at] = p.Inputs[at][:2], p.Known[at][:2] },
		"both more":        func(p *impl.Peer) { p.Inputs[at], p.Known[at] = append(p.Inputs[at], 0), append(p.Known[at], false) },
		"neither":          func(p *impl.Peer) { p.Inputs[at], p.Known[at] = nil, nil },
		"below 0":          func(p *impl.Peer) { p.Inputs[at][1], p.Known[at][1] = -1, true },
		"above":            func(p *impl.Peer) { p.Inputs[at][1], p.Known[at][1] = 6, true },
		"far above":        func(p *impl.Peer) { p.Inputs[at][0], p.Known[at][0] = 1<<32, true },
		"not known":        func(p *impl.Peer) { p.Inputs[at][1], p.Known[at][1] = 1, false },
		"the last unknown": func(p *impl.Peer) { p.Inputs[at][2], p.Known[at][2] = 5, false },
		"bad and unknown":  func(p *impl.Peer) { p.Inputs[at][2], p.Known[at][2] = 6, false },
	}
	return out
}

func TestPeersThatAreNotGood(t *testing.T) {
	base := peerBy(3, 4, "0.0=2 1.1=4 20.2=5 s5 59.0=1")
	if !slowGoodPeer(base) {
		t.Fatal(base)
	}
	for what, change := range badPeerChanges() {
		wantNoPeer(t, what, withPeer(base, change))
	}
}

// A peer is bad by one number of its games, or it is not.
func TestPeersWithOneNumberChanged(t *testing.T) {
	base := peerBy(2, 4, "0.0=2 1.1=4 20.1=5 s3")
	for _, number := range gameNumbersAsked() {
		for at := range gameParts(&base.Game) {
			for past := -1; past < 3; past++ {
				p := withPeer(base, func(p *impl.Peer) {
					if past < 0 {
						*gameParts(&p.Game)[at] = number
					} else {
						*gameParts(&p.Past[past])[at] = number
					}
				})
				if past < 0 || at > 0 && number%2 != 0 {
					wantSlowPeerStep(t, "a number", p)
				}
				if past == 1 || at < 2 {
					wantSlowHears(t, "a number", p, word24(1, 0, 4))
				}
			}
		}
	}
}

// What a peer says that fits is taken as it is, though it was never played so.
func TestPeersThatWereNotPlayedSo(t *testing.T) {
	strange := map[string]func(*impl.Peer){
		"another Coin":             func(p *impl.Peer) { p.Game.Coin = 99 },
		"other places":             func(p *impl.Peer) { p.Game.Seats = seatRow(3) },
		"another Coin in the past": func(p *impl.Peer) { p.Past[2].Coin = 77 },
		"other places in the past": func(p *impl.Peer) { p.Past[1].Seats, p.Past[3].Seats = seatRow(3), seatRow(3) },
		"no Hp in the past":        func(p *impl.Peer) { p.Past[2].Seats[0].Hp, p.Past[2].Seats[1].Hp = 0, 0 },
		"all one":                  func(p *impl.Peer) { *p = sizedPeer(3, 5, 60) },
		"heard, but not played":    func(p *impl.Peer) { p.Known[1][2], p.Inputs[1][2] = true, 3 },
		"all heard": func(p *impl.Peer) {
			for frame := range p.Known {
				p.Known[frame] = []bool{true, true, true}
			}
		},
		"much heard as nothing": func(p *impl.Peer) {
			for frame := range p.Known {
				p.Inputs[frame], p.Known[frame] = []int{0, 0, 0}, []bool{frame%2 == 0, frame > 2, frame == 4}
			}
		},
		"at the last frame":       func(p *impl.Peer) { *p = sizedPeer(3, 60, 60) },
		"ahead of the last one":   func(p *impl.Peer) { *p = sizedPeer(3, 59, 60) },
		"one seat":                func(p *impl.Peer) { *p = sizedPeer(1, 7, 60) },
		"as many seats as may be": func(p *impl.Peer) { *p = sizedPeer(4, 7, 60) },
	}
	again := 0
	for what, change := range strange {
		p := withPeer(peerBy(3, 4, "0.0=2 1.1=4 20.2=5 s5 59.0=1"), change)
		if !slowGoodPeer(p) {
			t.Error(what, p)
		}
		wantSlowPeerStep(t, what, p)
		for frame := range 9 {
			for seat := range 3 {
				for _, input := range []int{0, 1, 4, strikes} {
					if _, frames := wantSlowHears(t, what, p, word24(frame, seat, input)); frames > 0 {
						again++
					}
				}
			}
		}
		wantSlowHears(t, what, p, word24(59, 0, strikes))
	}
	if again < 200 {
		t.Error(again)
	}
}

// coinPeer gives a peer that has stepped and heard by coins.
func coinPeer(next func(int) int, seats int, doings int) impl.Peer {
	p, _ := slowNewPeer(seats, next(4096)<<19+next(4096))
	near := 4 + next(56)
	for range doings {
		if next(3) > 0 {
			if then, good := slowPeerStep(p); good {
				p = then
			}
			continue
		}
		if then, _, good := slowHears(p, word24(next(near), next(seats), coinOf(next, []int{0, next(6), strikes}))); good {
			p = then
		}
	}
	return p
}

func TestPeersByCoins(t *testing.T) {
	again := 0
	for seed := range 250 {
		next := coinRow(seed + 24200)
		seats := 1 + next(mostSeats)
		p := coinPeer(next, seats, next(30))
		for range 3 {
			then := wantSlowPeerStep(t, "coins", p)
			l := word24(next(coinOf(next, []int{10, 60})), next(seats), next(6))
			if heard, frames := wantSlowHears(t, "coins", p, l); slowMayHear(p, l) {
				p = heard
				again += min(1, frames)
			} else if slowGoodPeer(then) {
				p = then
			}
		}
	}
	if again < 100 {
		t.Error(again)
	}
}

// ordersOfWords gives all orders in which words can come.
func ordersOfWords(words []impl.Late) [][]impl.Late {
	if len(words) == 0 {
		return [][]impl.Late{nil}
	}
	var out [][]impl.Late
	for i, first := range words {
		for _, rest := range ordersOfWords(slices.Concat(words[:i], words[i+1:])) {
			out = append(out, append([]impl.Late{first}, rest...))
		}
	}
	return out
}

// Promise 24: the same words in each order, each heard ahead of any step or behind them all, end in the same peer.
func TestPeersHearInAnyOrder(t *testing.T) {
	const frames = 5
	words := lateWords("0.0=4 1.1=1 2.0=5 3.1=5")
	start := withPeer(peerBy(2, 3, ""), func(p *impl.Peer) { p.Game.Seats = seatsOf("5,5,3 6,6,3") })
	var want impl.Peer
	for _, order := range ordersOfWords(words) {
		for times := range 6 * 6 * 6 * 6 {
			at := []int{times % 6, times / 6 % 6, times / 36 % 6, times / 216}
			if !slices.IsSorted(at) {
				continue
			}
			p := start
			for step := range frames + 1 {
				for i, l := range order {
					if at[i] == step {
						p, _, _ = impl.PeerHears(p, l)
					}
				}
				if step < frames {
					p, _ = impl.PeerStep(p)
				}
			}
			if want.Past == nil {
				want = p
			}
			if !alike(p, want) {
				t.Fatal(order, at, p, want)
			}
		}
	}
	if want.Game.Seats[0].Hp+want.Game.Seats[1].Hp == 6 || want.Game.Frame != frames {
		t.Error(want)
	}
}

// allWords gives the words of what was done in so many frames.
func allWords(inputs [][]int) []impl.Late {
	var out []impl.Late
	for frame, row := range inputs {
		for seat, input := range row {
			out = append(out, word24(frame, seat, input))
		}
	}
	return out
}

// shuffledWords puts words in an order of coins, each at most so far from where it was.
func shuffledWords(next func(int) int, words []impl.Late, far int) []impl.Late {
	out := slices.Clone(words)
	for i := range out {
		j := i + next(min(far, len(out)-i-1)+1)
		out[i], out[j] = out[j], out[i]
	}
	return out
}

// Promise 24: whatever comes late, in the end it is what was played from the beginning by what was heard.
func TestInTheEndItIsWhatWasHeard(t *testing.T) {
	struck := 0
	for seed := range 600 {
		next := coinRow(seed + 24300)
		seats := 1 + next(mostSeats)
		frames := 1 + next(min(60, mostLate/seats))
		start := next(4096)<<19 + next(4096)
		inputs := coinLists(next, seats, frames)
		want, _ := impl.PlayAll(seats, start, inputs)
		words := shuffledWords(next, allWords(inputs), next(80))
		wantRunPeer(t, "all heard", seats, start, frames, words, want, true)
		wantSlowRunPeer(t, "all heard", seats, start, frames, words)
		slices.Reverse(words)
		wantRunPeer(t, "the last ones first", seats, start, frames, words, want, true)
		if want.Coin != start {
			struck++
		}
		if seed%20 > 0 {
			continue
		}
		// By hand, in another order, with steps between: all of the past is what was played, too.
		p, _ := impl.NewPeer(seats, start)
		for at, l := range shuffledWords(next, words, 200) {
			p, _, _ = impl.PeerHears(p, l)
			for at%seats == 0 && p.Game.Frame < frames && next(3) > 0 {
				p, _ = impl.PeerStep(p)
			}
		}
		for p.Game.Frame < frames {
			p, _ = impl.PeerStep(p)
		}
		for frame, g := range append(p.Past, p.Game) {
			if played, _ := impl.PlayAll(seats, start, inputs[:frame]); !alike(g, played) {
				t.Fatal(seed, frame, g, played)
			}
		}
	}
	if struck < 100 {
		t.Error(struck)
	}
}

// What is not heard is guessed: words are lost, doubled, changed, and wrong ones come among them.
func TestRunsWithWordsThatAreLostAndWrong(t *testing.T) {
	for seed := range 1500 {
		next := coinRow(seed + 24400)
		seats := 1 + next(mostSeats)
		frames := coinOf(next, []int{next(61), 59, 60, 1 + next(10)})
		start := next(4096)<<19 + next(4096)
		var words []impl.Late
		for _, l := range shuffledWords(next, allWords(coinLists(next, seats, 60)), next(120)) {
			switch next(12) {
			case 0, 1, 2, 3, 4, 5:
				continue
			case 6:
				l.Input = next(6)
			case 7:
				l.Frame = coinOf(next, wordNumbersAsked())
			case 8:
				l.Seat = coinOf(next, wordNumbersAsked())
			case 9:
				l.Input = coinOf(next, wordNumbersAsked())
			}
			words = append(words, l)
			if next(8) == 0 {
				words = append(words, word24(l.Frame, l.Seat, next(6)))
			}
		}
		wantSlowRunPeer(t, "words that are lost and wrong", seats, start, frames, words)
	}
}

func runsTold() []struct {
	what, words   string
	frames, coins int
	seats         string
} {
	return []struct {
		what, words   string
		frames, coins int
		seats         string
	}{
		{"no words, no frames", "", 0, 0, "0,0,9 8,8,9"},
		{"no words", "", 7, 0, "0,0,9 8,8,9"},
		{"words, no frames", "0.0=2 1.0=2", 0, 0, "0,0,9 8,8,9"},
		{"one word, guessed on", "0.0=2", 7, 0, "7,0,9 8,8,9"},
		{"a word of the last step", "6.0=2", 7, 0, "1,0,9 8,8,9"},
		{"a word behind the last step", "7.0=2", 7, 0, "0,0,9 8,8,9"},
		{"three ahead of the first step", "0.0=2 0.1=1 1.0=4", 2, 0, "1,1,9 6,8,9"},
		{"a fourth one", "0.0=2 0.1=1 1.0=4 1.1=3", 2, 0, "1,1,9 7,7,9"},
		{"left behind the last step", "0.0=2 0.1=1 1.0=4 5.0=0 5.1=0 6.0=0 0.0=3 1.1=3", 2, 0, "1,1,9 7,7,9"},
		{"all in one step, the first one last", "9.0=1 9.1=1 8.0=1 8.1=1 0.0=4 0.1=2", 1, 0, "0,1,9 9,8,9"},
		{"the first word of two counts", "0.0=2 0.0=4 1.0=0", 3, 0, "1,0,9 8,8,9"},
		{"refused ones in the midst", "60.0=2 -1.0=2 0.2=2 0.-1=2 0.0=6 0.0=-1 0.0=2", 3, 0, "3,0,9 8,8,9"},
		{"a refused one counts as heard by number", "60.0=2 60.0=2 60.0=2 60.0=2 1.0=2", 2, 0, "1,0,9 8,8,9"},
		{"up to the next one heard", "4.0=0 0.0=2 2.0=4", 6, 0, "2,2,9 8,8,9"},
		{"the same from behind", "2.0=4 4.0=0 0.0=2", 6, 0, "2,2,9 8,8,9"},
		{"they meet and strike", "0.0=2 0.1=1 4.0=4 4.1=3 7.1=0 8.0=5 9.0=0", 10, 1, "4,4,9 4,5,8"},
		{"the strike comes first", "9.0=0 8.0=5 7.1=0 4.1=3 4.0=4 0.1=1 0.0=2", 10, 1, "4,4,9 4,5,8"},
	}
}

func TestRunsTold(t *testing.T) {
	seed := seedOfSides("eo")
	for _, c := range runsTold() {
		want := gameOf(c.frames, seedBehind(seed, c.coins), c.seats)
		wantRunPeer(t, c.what, 2, seed, c.frames, lateWords(c.words), want, true)
		wantSlowRunPeer(t, c.what, 2, seed, c.frames, lateWords(c.words))
	}
}

func TestRunsAtTheLimits(t *testing.T) {
	words := allWords(coinLists(coinRow(2424), 4, 60))
	for _, frames := range append(beyond(mostGameFrames), -2, 0, 1, 2, 30, 59, 60, 256, 300) {
		for _, many := range []int{0, 1, 2, 3, 4, 180, 199, mostLate} {
			wantSlowRunPeer(t, "so many frames", 4, 3, frames, words[:many])
		}
		wantRunPeer(t, "a word too many", 4, 3, frames, words[:mostLate+1], impl.Game{}, false)
	}
	for _, many := range []int{mostLate + 1, 240} {
		wantRunPeer(t, "too many words", 4, 3, 60, words[:many], impl.Game{}, false)
		wantRunPeer(t, "too many words that are refused", 4, 3, 60, make([]impl.Late, many), impl.Game{}, false)
	}
	wantRunPeer(t, "very many words", 1, 3, 5, make([]impl.Late, 256+200), impl.Game{}, false)
	wantSlowRunPeer(t, "as many words that are refused", 4, 3, 60, slices.Repeat([]impl.Late{word24(60, 0, 2)}, mostLate))
	// The last word of all is heard.
	last := append(slices.Repeat([]impl.Late{word24(-1, 0, 2)}, mostLate-1), word24(0, 0, 2))
	wantRunPeer(t, "the last word", 1, 3, 60, last, gameOf(60, 3, "60,0,9"), true)
	wantRunPeer(t, "the last word, of one step", 1, 3, 1, last, gameOf(1, 3, "1,0,9"), true)
}

func TestGameSumsTold(t *testing.T) {
	for _, c := range []struct {
		what string
		g    impl.Game
		want int
	}{
		{"one seat at the beginning", gameOf(0, 0, "0,0,9"), 403466},
		{"each number another one", gameOf(1, 2, "3,4,5"), 389569},
		{"two seats", gameOf(7, 70000, "1,2,3 4,5,6"), 936711},
		{"the greatest", gameOf(60, lastSeed, "63,63,9 63,63,9 63,63,9 63,63,9"), 511214},
		{"the least", gameOf(0, 0, "0,0,0"), 403457},
	} {
		wantGameSum(t, c.what, c.g, c.want, true)
		wantSlowGameSum(t, c.what, c.g)
	}
}

// Games that differ in one number have other sums, but for Coins that lie as far apart as the sums go round.
func TestGameSumsOfOtherGames(t *testing.T) {
	for _, base := range goodGames() {
		sums := map[int]int{}
		for at := range gameParts(&base) {
			for number := range 10 {
				g := withGame(base, func(g *impl.Game) { *gameParts(g)[at] = number })
				wantSlowGameSum(t, "another number", g)
				sum, _ := impl.GameSum(g)
				was, _ := impl.GameSum(base)
				if (sum == was) != alike(g, base) {
					t.Error(g, base, sum)
				}
				sums[sum]++
			}
		}
		if len(sums) < 9*len(gameParts(&base)) {
			t.Error(base, len(sums))
		}
	}
	here, _ := impl.GameSum(gameOf(3, 5, "5,5,5"))
	there, _ := impl.GameSum(gameOf(3, 5+1000003, "5,5,5"))
	if here != there {
		t.Error(here, there)
	}
	// The same seats in another order are another game.
	here, _ = impl.GameSum(gameOf(3, 5, "5,5,5 6,6,6"))
	there, _ = impl.GameSum(gameOf(3, 5, "6,6,6 5,5,5"))
	if here == there {
		t.Error(here, there)
	}
}

func TestSplitsTold(t *testing.T) {
	for _, c := range []struct {
		what string
		a, b []int
		want int
	}{
		{"none and none", nil, nil, -1},
		{"none and one", nil, []int{5}, -1},
		{"the same", []int{5, 6}, []int{5, 6}, -1},
		{"the first", []int{5, 6}, []int{4, 6}, 0},
		{"the second", []int{5, 6}, []int{5, 7}, 1},
		{"both", []int{5, 6}, []int{4, 7}, 0},
		{"shorter, the same", []int{5}, []int{5, 6}, -1},
		{"longer, the same", []int{5, 6, 7}, []int{5, 6}, -1},
		{"shorter, another one", []int{5, 8}, []int{5, 6, 7}, 1},
		{"the same at other places", []int{5, 6, 7}, []int{6, 7, 5}, 0},
		{"noughts and nothing", []int{0, 0}, nil, -1},
		{"below 0", []int{-1, -2}, []int{-1, 2}, 1},
		{"far apart", []int{1, 1 << 62}, []int{1, -1 << 62}, 1},
	} {
		wantSplit(t, c.what, c.a, c.b, c.want, true)
		wantSplit(t, c.what+", turned", c.b, c.a, c.want, true)
		wantSlowSplit(t, c.what, c.a, c.b)
	}
}

func TestSplitsAtEachPlace(t *testing.T) {
	for _, many := range []int{0, 1, 2, 30, 59, mostGameFrames, mostGameFrames + 1, 62, 256, 300} {
		for _, other := range []int{0, 1, 59, mostGameFrames, mostGameFrames + 1, 256 + 30} {
			a, b := counted(many), counted(other)
			wantSlowSplit(t, "no place", a, b)
			good := max(many, other) <= mostGameFrames
			for at := range min(many, other) {
				b[at] += 1 << 32
				want := at
				if !good {
					want = 0
				}
				wantSplit(t, "a place", a, b, want, good)
				b[at] -= 1 << 32
			}
		}
	}
	wantSplit(t, "one too many", make([]int, mostGameFrames+1), nil, 0, false)
	wantSplit(t, "one too many of the other", nil, make([]int, mostGameFrames+1), 0, false)
	wantSplit(t, "as many as may be", make([]int, mostGameFrames), make([]int, mostGameFrames), -1, true)
}

// Two machines that heard otherwise split at the first frame whose sums differ.
func TestSplitsOfGames(t *testing.T) {
	one := peerBy(2, 3, "0.0=2 20.1=4 s40")
	for frame := range 40 {
		other, again := wantSlowHears(t, "a word more", one, word24(frame, 1, 3))
		sums := [2][]int{}
		for i, p := range []impl.Peer{one, other} {
			for _, g := range append(p.Past, p.Game) {
				sum, _ := impl.GameSum(g)
				sums[i] = append(sums[i], sum)
			}
		}
		want := frame + 1
		if again == 0 {
			sums[1], want = sums[0], -1
		}
		wantSplit(t, "games", sums[0], sums[1], want, true)
	}
}

func TestHostsTold(t *testing.T) {
	for _, c := range []struct {
		seats      string
		host, want int
	}{
		{"#", 0, 0}, {".", 0, -1}, {".#", 0, 1}, {"#.", 1, 0}, {"##", 0, 0}, {"##", 1, 1}, {"..", 1, -1},
		{"#..#", 1, 3}, {"#..#", 2, 3}, {"#..#", 3, 3}, {"#...", 3, 0}, {"#...", 1, 0}, {".#..", 3, 1}, {".#.#", 2, 3}, {"....", 3, -1}, {"....", 0, -1},
	} {
		wantHost(t, c.seats, seatFlags(c.seats), c.host, c.want, true)
	}
}

// seatFlags tells which seats are there, one a letter.
func seatFlags(letters string) []bool {
	var out []bool
	for _, letter := range letters {
		out = append(out, letter == '#')
	}
	return out
}

func TestHostsOfAllSeats(t *testing.T) {
	hosts := append(farNumbers(), -257, -4, -1, 0, 1, 2, 3, 4, 5, 6, 255, 256, 257, 1<<32, 1<<32+1)
	for many := range 7 {
		for all := range 1 << many {
			flags := make([]bool, many)
			for seat := range flags {
				flags[seat] = all>>seat&1 == 1
			}
			for _, host := range hosts {
				wantSlowHost(t, "all seats", flags, host)
			}
		}
	}
	for _, many := range []int{5, 8, 100, 256, 257, 260} {
		wantHost(t, "too many seats", slices.Repeat([]bool{true}, many), 0, 0, false)
		wantHost(t, "too many seats, none there", make([]bool, many), 1, 0, false)
	}
}

// spoiledGame gives a game with one number or its seats changed.
func spoiledGame(g impl.Game, next func(int) int) impl.Game {
	return withGame(g, func(g *impl.Game) {
		switch next(5) {
		case 0:
			g.Seats = append(g.Seats, seatRow(1+next(5))...)
		case 1:
			g.Seats = g.Seats[:next(len(g.Seats)+1)]
		default:
			*coinOf(next, gameParts(g)) = coinOf(next, gameNumbersAsked())
		}
	})
}

// spoiledPeer gives a peer with one thing changed, which may fit all the same.
func spoiledPeer(p impl.Peer, next func(int) int) impl.Peer {
	return withPeer(p, func(p *impl.Peer) {
		frame := next(60)
		switch next(9) {
		case 0:
			p.Game = spoiledGame(p.Game, next)
		case 1:
			if len(p.Past) > 0 {
				at := next(len(p.Past))
				p.Past[at] = spoiledGame(p.Past[at], next)
			}
		case 2:
			p.Inputs = p.Inputs[:59+next(2)]
		case 3:
			p.Known = p.Known[:59+next(2)]
		case 4:
			p.Inputs[frame] = append(p.Inputs[frame], make([]int, next(2))...)
		case 5:
			p.Known[frame] = p.Known[frame][:next(len(p.Known[frame])+1)]
		case 6:
			p.Known[frame][next(len(p.Known[frame]))] = true
			p.Inputs[frame][next(len(p.Inputs[frame]))] = coinOf(next, wordNumbersAsked())
		case 7:
			p.Past = append(p.Past[:len(p.Past):len(p.Past)], make([]impl.Game, next(2))...)
		case 8:
			p.Game.Seats = seatRow(len(p.Game.Seats))
		}
	})
}

// Promise 29.
func TestTurningBackAnswersAtAnyArguments(t *testing.T) {
	kinds := map[string]int{}
	count := func(what string, good bool) { kinds[fmt.Sprint(what, " ", good)]++ }
	for seed := range 500 {
		next := coinRow(seed + 2924)
		seats := 1 + next(mostSeats)
		g := coinGame(next, next(61))
		if next(3) == 0 {
			g = spoiledGame(g, next)
		}
		inputs := coinInputs(next, max(0, len(g.Seats)+(next(9)-1)/7))
		if len(inputs) > 0 && next(5) == 0 {
			inputs[next(len(inputs))] = coinOf(next, wordNumbersAsked())
		}
		wantGoodGame(t, "any", g, slowGoodGame(g))
		wantSlowGameSum(t, "any", g)
		wantSlowGameStep(t, "any", g, inputs)
		_, stepped := slowStepGame(g, inputs)
		count("stepped", stepped)
		start := coinOf(next, append(notSeeds(), counted(20)...))
		lists := coinLists(next, seats, next(70))
		wantSlowPlayed(t, "any", seats, start, lists)
		wantSlowPlayed(t, "any", next(6), start, append(lists[:len(lists):len(lists)], inputs))
		p := coinPeer(next, seats, next(30))
		if next(2) == 0 {
			p = spoiledPeer(p, next)
		}
		count("peer", slowGoodPeer(p))
		wantSlowPeerStep(t, "any", p)
		l := word24(next(70)-5, next(6)-1, next(8)-1)
		wantSlowHears(t, "any", p, l)
		_, _, heard := slowHears(p, l)
		count("heard", heard)
		words := shuffledWords(next, allWords(lists), next(100))
		frames := coinOf(next, []int{next(70) - 4, next(61), coinOf(next, beyond(60))})
		wantSlowRunPeer(t, "any", seats+next(9)/8, start, frames, words)
		_, run := slowRunPeer(seats, start, frames, words)
		count("run", run)
		a, b := counted(1+next(65)), counted(next(65))
		a[next(len(a))] += next(2)
		wantSlowSplit(t, "any", a, b)
		wantSlowHost(t, "any", seatFlags([]string{"", ".", "#", "..", ".#", "#.#", "....", "..#.", ".....", "#####"}[next(10)]), next(7)-1)
	}
	for _, kind := range []string{"stepped true", "stepped false", "peer true", "peer false", "heard true", "heard false", "run true", "run false"} {
		if kinds[kind] < 60 {
			t.Error(kinds)
		}
	}
}

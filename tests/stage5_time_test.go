package tests

import (
	"cmp"
	"fmt"
	"math"
	"math/big"
	"slices"
	"testing"

	"loop.example/g00064/impl"
)

const lastTime = 100000
const wholeOne = 65536

// once gives a timer that fires once.
func once(id int, at int) impl.Timer {
	return impl.Timer{Id: id, At: at, Left: 1}
}

// often gives a timer that fires again and again.
func often(id int, at int, every int, left int) impl.Timer {
	return impl.Timer{Id: id, At: at, Every: every, Left: left}
}

func clockOf(now int, timers ...impl.Timer) impl.Clock {
	return impl.Clock{Now: now, Timers: timers}
}

// fires gives what fires by times and Ids in turn.
func fires(timesAndIds ...int) []impl.Fired {
	var out []impl.Fired
	for pair := range slices.Chunk(timesAndIds, 2) {
		out = append(out, impl.Fired{Time: pair[0], Id: pair[1]})
	}
	return out
}

// smallClock has timers of one time, ones that fire once, for the last time and often.
func smallClock() impl.Clock {
	return clockOf(10, often(0, 12, 3, 4), once(4, 15), often(7, 11, 4, 2), often(8, 15, 100000, 1000), often(20, 18, 1, 1), once(999, 200000))
}

// fullClock has MaxTimers timers, with every second Id, of a few times.
func fullClock() impl.Clock {
	c := clockOf(5)
	for i := range 20 {
		c.Timers = append(c.Timers, often(2*i+1, 6+(i*7)%5, i%4, 1))
		if i%4 > 0 {
			c.Timers[i].Left = 1 + i*3
		}
	}
	return c
}

// goodClocks holds clocks that stand just at the limits, and ordinary ones.
func goodClocks() map[string]impl.Clock {
	return map[string]impl.Clock{
		"nothing":                {},
		"no timer, at the end":   clockOf(lastTime),
		"one timer":              clockOf(0, once(5, 1)),
		"Id 0":                   clockOf(3, once(0, 4)),
		"Id 999":                 clockOf(3, once(999, 4)),
		"Ids one behind another": clockOf(3, once(0, 4), once(1, 4), once(2, 4)),
		"At one above Now":       clockOf(7, often(1, 8, 1, 2)),
		"At one above the end":   clockOf(lastTime, once(1, lastTime+1)),
		"At as far as may be":    clockOf(lastTime, once(1, 2*lastTime)),
		"At far from Now 0":      clockOf(0, once(1, 2*lastTime)),
		"Every 1":                clockOf(0, often(1, 1, 1, 2)),
		"Every MaxTime":          clockOf(0, often(1, 1, lastTime, 2)),
		"Left 1 of many":         clockOf(0, often(1, 1, 9, 1)),
		"Left 1000":              clockOf(0, often(1, 1, 9, 1000)),
		"all of it":              clockOf(lastTime, often(999, 2*lastTime, lastTime, 1000)),
		"small":                  smallClock(),
		"full":                   fullClock(),
	}
}

// badClocks holds clocks that are not good, in each way that the document names.
func badClocks() map[string]impl.Clock {
	more := fullClock()
	more.Timers = append(more.Timers, once(500, 50))
	return map[string]impl.Clock{
		"Now below 0":               clockOf(-1, once(1, 5)),
		"Now below 0, no timer":     clockOf(-1),
		"Now beyond":                clockOf(lastTime+1, once(1, lastTime+5)),
		"Now beyond, no timer":      clockOf(lastTime + 1),
		"Now far below":             clockOf(math.MinInt, once(1, 5)),
		"Now far beyond":            clockOf(math.MaxInt),
		"one timer too many":        more,
		"Id below 0":                clockOf(0, once(-1, 5), once(3, 6)),
		"Id beyond":                 clockOf(0, once(3, 5), once(1000, 6)),
		"Id far below":              clockOf(0, once(math.MinInt, 5)),
		"Id far beyond":             clockOf(0, once(math.MaxInt, 5)),
		"an Id twice":               clockOf(0, once(3, 5), once(3, 6)),
		"a timer twice":             clockOf(0, once(0, 5), once(0, 5)),
		"Ids falling":               clockOf(0, once(3, 5), once(2, 6)),
		"the last Id twice":         clockOf(0, once(1, 5), once(2, 6), once(2, 7)),
		"the last Ids falling":      clockOf(0, once(1, 5), once(3, 6), once(2, 7)),
		"At at Now":                 clockOf(5, once(1, 5)),
		"At at Now, the last one":   clockOf(5, once(1, 6), once(2, 5)),
		"At below Now":              clockOf(5, once(1, 4)),
		"At at Now 0":               clockOf(0, once(1, 0)),
		"At at the end":             clockOf(lastTime, once(1, lastTime)),
		"At below 0":                clockOf(5, once(1, -1)),
		"At beyond":                 clockOf(0, once(1, 2*lastTime+1)),
		"At beyond, Now at the end": clockOf(lastTime, once(1, 6), once(2, 2*lastTime+1)),
		"At far below":              clockOf(0, once(1, math.MinInt)),
		"At far beyond":             clockOf(0, once(1, math.MaxInt)),
		"Every below 0":             clockOf(0, often(1, 5, -1, 1)),
		"Every below 0, often":      clockOf(0, often(1, 5, -1, 2)),
		"Every beyond":              clockOf(0, often(1, 5, lastTime+1, 1)),
		"Every far below":           clockOf(0, often(1, 5, math.MinInt, 1)),
		"Every far beyond":          clockOf(0, often(1, 5, math.MaxInt, 1)),
		"Left 0, once":              clockOf(0, often(1, 5, 0, 0)),
		"Left 0, often":             clockOf(0, often(1, 5, 3, 0)),
		"Left 2, once":              clockOf(0, often(1, 5, 0, 2)),
		"Left 1000, once":           clockOf(0, often(1, 5, 0, 1000)),
		"Left beyond":               clockOf(0, often(1, 5, 3, 1001)),
		"Left below 0":              clockOf(0, often(1, 5, 3, -1)),
		"Left far below":            clockOf(0, often(1, 5, 3, math.MinInt)),
		"Left far beyond":           clockOf(0, often(1, 5, 3, math.MaxInt)),
		"a timer of noughts":        clockOf(0, impl.Timer{}),
		"the first of three":        clockOf(0, once(1, 0), once(2, 6), once(3, 7)),
		"the second of three":       clockOf(0, once(1, 5), often(2, 6, 1, 0), once(3, 7)),
		"the third of three":        clockOf(0, once(1, 5), once(2, 6), often(3, 7, -1, 1)),
	}
}

// slowGoodClock asks each timer by itself, and each pair.
func slowGoodClock(c impl.Clock) bool {
	within := func(n int, least int, most int) bool { return least <= n && n <= most }
	good := within(c.Now, 0, 100000) && len(c.Timers) <= 20
	for i, t := range c.Timers {
		good = good && within(t.Id, 0, 999) && t.At > c.Now && t.At <= 200000
		good = good && within(t.Every, 0, 100000) && within(t.Left, 1, 1000)
		good = good && !(t.Every == 0 && t.Left != 1)
		for _, before := range c.Timers[:i] {
			good = good && before.Id < t.Id
		}
	}
	return good
}

// timeNumbers holds numbers on both sides of all limits of clocks.
func timeNumbers() []int {
	return []int{
		math.MinInt, -200000, -1001, -2, -1, 0, 1, 2, 4, 5, 6, 7, 8, 9, 10, 11, 12, 15, 19, 20, 21, 39, 998, 999, 1000, 1001,
		lastTime - 1, lastTime, lastTime + 1, 2*lastTime - 1, 2 * lastTime, 2*lastTime + 1, math.MaxInt,
	}
}

func wantClock(t *testing.T, what string, got []any, want impl.Clock, good bool) {
	t.Helper()
	if len(got) != 2 || !alike(got[0], want) || got[1] != good {
		t.Errorf("%s: %v, wanted %v with %v", what, got, want, good)
	}
}

func wantRun(t *testing.T, what string, got []any, want impl.Clock, fired []impl.Fired, good bool) {
	t.Helper()
	if len(got) != 3 || !alike(got[0], want) || !alike(got[1], fired) || got[2] != good {
		t.Errorf("%s: %v, wanted %v, %v with %v", what, got, want, fired, good)
	}
}

func TestConstantsOfTime(t *testing.T) {
	if impl.MaxTimers != 20 || impl.MaxTime != 100000 || impl.MaxFired != 2000 {
		t.Error(impl.MaxTimers, impl.MaxTime, impl.MaxFired)
	}
	if impl.EaseLine != 1 || impl.EaseIn != 2 || impl.EaseOut != 3 || impl.EaseBoth != 4 {
		t.Error(impl.EaseLine, impl.EaseIn, impl.EaseOut, impl.EaseBoth)
	}
}

func TestGoodClockTold(t *testing.T) {
	for what, c := range goodClocks() {
		if got := purely(t, what, impl.GoodClock, c); got[0] != true {
			t.Errorf("%s is not good", what)
		}
	}
	for what, c := range badClocks() {
		if got := purely(t, what, impl.GoodClock, c); got[0] != false {
			t.Errorf("%s is good", what)
		}
	}
}

// One thing of a good clock is made another, at each timer.
func TestGoodClockWithOneThingChanged(t *testing.T) {
	ask := func(what string, c impl.Clock) {
		if got, want := impl.GoodClock(c), slowGoodClock(c); got != want {
			t.Errorf("%s: %v, and it is %v: %v", what, got, want, c)
		}
	}
	for _, x := range timeNumbers() {
		c := smallClock()
		c.Now = x
		ask("Now", c)
		for at := range c.Timers {
			for what, field := range map[string]func(t *impl.Timer) *int{
				"Id":    func(t *impl.Timer) *int { return &t.Id },
				"At":    func(t *impl.Timer) *int { return &t.At },
				"Every": func(t *impl.Timer) *int { return &t.Every },
				"Left":  func(t *impl.Timer) *int { return &t.Left },
			} {
				c := smallClock()
				*field(&c.Timers[at]) = x
				ask(what, c)
			}
		}
	}
}

func TestAddTimerTold(t *testing.T) {
	two := clockOf(5, once(3, 9), often(6, 7, 2, 8))
	for _, c := range []struct {
		what  string
		clock impl.Clock
		timer impl.Timer
		want  impl.Clock
	}{
		{"to none", impl.Clock{}, once(5, 1), clockOf(0, once(5, 1))},
		{"ahead", two, often(2, 6, 1, 4), clockOf(5, often(2, 6, 1, 4), once(3, 9), often(6, 7, 2, 8))},
		{"between", two, once(4, 6), clockOf(5, once(3, 9), once(4, 6), often(6, 7, 2, 8))},
		{"behind", two, once(7, 6), clockOf(5, once(3, 9), often(6, 7, 2, 8), once(7, 6))},
		{"the least Id", two, once(0, 6), clockOf(5, once(0, 6), once(3, 9), often(6, 7, 2, 8))},
		{"the greatest Id", two, once(999, 6), clockOf(5, once(3, 9), often(6, 7, 2, 8), once(999, 6))},
		{"instead of the first", two, often(3, 200000, 100000, 1000), clockOf(5, often(3, 200000, 100000, 1000), often(6, 7, 2, 8))},
		{"instead of the last", two, once(6, 6), clockOf(5, once(3, 9), once(6, 6))},
		{"as it stands there", two, once(3, 9), two},
		{"at the end of time", clockOf(lastTime), often(1, lastTime+1, 1, 1), clockOf(lastTime, often(1, lastTime+1, 1, 1))},
	} {
		wantClock(t, c.what, purely(t, c.what, impl.AddTimer, c.clock, c.timer), c.want, true)
	}
}

func TestAddTimerToAFullClock(t *testing.T) {
	full := fullClock()
	for _, id := range []int{0, 2, 20, 38, 40, 999} {
		what := fmt.Sprint("one more, with Id ", id)
		wantClock(t, what, purely(t, what, impl.AddTimer, full, once(id, 50)), impl.Clock{}, false)
	}
	for at := range full.Timers {
		then := fullClock()
		then.Timers[at] = once(then.Timers[at].Id, 50)
		wantClock(t, "instead", purely(t, "instead", impl.AddTimer, full, then.Timers[at]), then, true)
		fewer := impl.Clock{Now: 5, Timers: slices.Delete(fullClock().Timers, at, at+1)}
		wantClock(t, "the last one", purely(t, "the last one", impl.AddTimer, fewer, full.Timers[at]), full, true)
	}
}

// slowAdd leaves out what has the Id, adds the timer and sorts.
func slowAdd(c impl.Clock, added impl.Timer) (impl.Clock, bool) {
	then := clockOf(c.Now, added)
	for _, t := range c.Timers {
		if t.Id != added.Id {
			then.Timers = append(then.Timers, t)
		}
	}
	slices.SortFunc(then.Timers, func(a impl.Timer, b impl.Timer) int { return a.Id - b.Id })
	if !slowGoodClock(c) || !slowGoodClock(then) {
		return impl.Clock{}, false
	}
	return then, true
}

// timersAround holds timers with one thing at and beyond each of its limits.
func timersAround() []impl.Timer {
	var out []impl.Timer
	for _, x := range timeNumbers() {
		out = append(out, once(x, 16), once(7, x), often(8, 16, x, 1), often(8, 16, x, 2), often(9, 16, 3, x), often(9, 16, 0, x), often(9, x, lastTime, 1000))
	}
	return out
}

func TestAddTimerExactly(t *testing.T) {
	added, refused := 0, 0
	for what, c := range goodClocks() {
		for _, timer := range timersAround() {
			// Ids far apart are kept from overflowing the sort of the model.
			if timer.Id < -1001 || timer.Id > 1001 {
				wantClock(t, what, purely(t, what, impl.AddTimer, c, timer), impl.Clock{}, false)
				continue
			}
			want, good := slowAdd(c, timer)
			asked := fmt.Sprint("AddTimer ", what, timer)
			wantClock(t, asked, purely(t, asked, impl.AddTimer, c, timer), want, good)
			if good {
				added++
			} else {
				refused++
			}
		}
	}
	if added == 0 || refused == 0 {
		t.Error("added", added, "refused", refused)
	}
}

func TestDropTimer(t *testing.T) {
	for what, c := range goodClocks() {
		for _, id := range append(timeNumbers(), 3, 13) {
			at := slices.IndexFunc(c.Timers, func(t impl.Timer) bool { return t.Id == id })
			asked := fmt.Sprint("DropTimer ", what, " ", id)
			got := purely(t, asked, impl.DropTimer, c, id)
			if at < 0 {
				wantClock(t, asked, got, impl.Clock{}, false)
				continue
			}
			wantClock(t, asked, got, impl.Clock{Now: c.Now, Timers: slices.Concat(c.Timers[:at], c.Timers[at+1:])}, true)
			// What went can be added again, and stands where it stood.
			wantClock(t, asked+", and back", purely(t, asked, impl.AddTimer, got[0], c.Timers[at]), c, true)
		}
	}
	small := smallClock()
	for at, timer := range small.Timers {
		want := clockOf(10, slices.Concat(small.Timers[:at], small.Timers[at+1:])...)
		wantClock(t, "small", purely(t, "small", impl.DropTimer, small, timer.Id), want, true)
	}
}

func TestRunClockTold(t *testing.T) {
	for _, c := range []struct {
		what  string
		clock impl.Clock
		until int
		want  impl.Clock
		fired []impl.Fired
	}{
		{"nothing at all", impl.Clock{}, 0, impl.Clock{}, nil},
		{"nothing to the end", impl.Clock{}, lastTime, clockOf(lastTime), nil},
		{"the end to the end", clockOf(lastTime), lastTime, clockOf(lastTime), nil},
		{"until at Now", clockOf(5, once(1, 6)), 5, clockOf(5, once(1, 6)), nil},
		{"once, ahead of it", clockOf(0, once(1, 6)), 5, clockOf(5, once(1, 6)), nil},
		{"once, just at it", clockOf(0, once(1, 6)), 6, clockOf(6), fires(6, 1)},
		{"once, one behind it", clockOf(0, once(1, 6)), 7, clockOf(7), fires(6, 1)},
		{"once, at the end", clockOf(0, once(1, lastTime)), lastTime, clockOf(lastTime), fires(lastTime, 1)},
		{"once, behind the end", clockOf(0, once(1, lastTime+1)), lastTime, clockOf(lastTime, once(1, lastTime+1)), nil},
		{"often, ahead of it", clockOf(0, often(1, 3, 2, 3)), 2, clockOf(2, often(1, 3, 2, 3)), nil},
		{"often, for the first time", clockOf(0, often(1, 3, 2, 3)), 3, clockOf(3, often(1, 5, 2, 2)), fires(3, 1)},
		{"often, between", clockOf(0, often(1, 3, 2, 3)), 4, clockOf(4, often(1, 5, 2, 2)), fires(3, 1)},
		{"often, for the second time", clockOf(0, often(1, 3, 2, 3)), 5, clockOf(5, often(1, 7, 2, 1)), fires(3, 1, 5, 1)},
		{"often, for the last time", clockOf(0, often(1, 3, 2, 3)), 7, clockOf(7), fires(3, 1, 5, 1, 7, 1)},
		{"often, and no more", clockOf(0, often(1, 3, 2, 3)), 10, clockOf(10), fires(3, 1, 5, 1, 7, 1)},
		{"the last time of one", clockOf(0, often(1, 3, 2, 1)), 9, clockOf(9), fires(3, 1)},
		{"as far apart as may be", clockOf(0, often(1, lastTime, lastTime, 2)), lastTime,
			clockOf(lastTime, often(1, 2*lastTime, lastTime, 1)), fires(lastTime, 1)},
		{"by time, not by Id", clockOf(0, once(1, 9), once(2, 8), once(3, 7)), 9, clockOf(9), fires(7, 3, 8, 2, 9, 1)},
		{"of one time by Id", clockOf(0, once(0, 7), once(2, 7), once(11, 7), once(999, 7)), 9, clockOf(9),
			fires(7, 0, 7, 2, 7, 11, 7, 999)},
		{"of one time that is come to", clockOf(0, often(1, 4, 4, 9), once(2, 8), often(3, 2, 3, 9), often(4, 8, 1, 2)), 8,
			clockOf(8, often(1, 12, 4, 7), often(3, 11, 3, 6), often(4, 9, 1, 1)),
			fires(2, 3, 4, 1, 5, 3, 8, 1, 8, 2, 8, 3, 8, 4)},
		{"small", smallClock(), 18, clockOf(18, often(0, 21, 3, 1), often(8, 100015, 100000, 999), once(999, 200000)),
			fires(11, 7, 12, 0, 15, 0, 15, 4, 15, 7, 15, 8, 18, 0, 18, 20)},
	} {
		wantRun(t, c.what, purely(t, c.what, impl.RunClock, c.clock, c.until), c.want, c.fired, true)
	}
}

// slowRun works out each timer by itself, and sorts what all of them fire.
func slowRun(c impl.Clock, until int) (impl.Clock, []impl.Fired, bool) {
	if !slowGoodClock(c) || until < c.Now || until > 100000 {
		return impl.Clock{}, nil, false
	}
	then := impl.Clock{Now: until}
	var all []impl.Fired
	for _, t := range c.Timers {
		done := 0
		for done < t.Left && t.At+done*t.Every <= until {
			all = append(all, impl.Fired{Time: t.At + done*t.Every, Id: t.Id})
			done++
		}
		if done < t.Left {
			then.Timers = append(then.Timers, often(t.Id, t.At+done*t.Every, t.Every, t.Left-done))
		}
	}
	if len(all) > 2000 {
		return impl.Clock{}, nil, false
	}
	slices.SortFunc(all, func(a impl.Fired, b impl.Fired) int {
		return cmp.Or(cmp.Compare(a.Time, b.Time), cmp.Compare(a.Id, b.Id))
	})
	return then, all, true
}

// coinClock makes a good clock out of coins, with times below about reach.
func coinClock(seed int, reach int) impl.Clock {
	row := coins(seed, 150)
	next := func(below int) int {
		c := row[0] >> 2 % below
		row = row[1:]
		return c
	}
	c := clockOf(next(reach))
	id := next(40)
	for range next(21) {
		timer := once(id, c.Now+1+next(reach))
		if next(3) > 0 {
			timer.Every = 1 + next(reach)
			timer.Left = 1 + next(9)*next(9)
		}
		c.Timers = append(c.Timers, timer)
		id += 1 + next(48)
	}
	return c
}

// clockSpread holds the told clocks and ones made of coins, crowded and wide.
func clockSpread() []impl.Clock {
	var out []impl.Clock
	for _, c := range goodClocks() {
		out = append(out, c)
	}
	for seed := range 60 {
		out = append(out, coinClock(seed+1, 3+seed%9), coinClock(seed+101, 50), coinClock(seed+201, 8000))
	}
	return out
}

func TestRunClockExactly(t *testing.T) {
	many := 0
	for _, c := range clockSpread() {
		if !slowGoodClock(c) {
			t.Fatal("a clock to try is not good", c)
		}
		for _, more := range []int{0, 1, 2, 3, 5, 10, 30, 100, 1000, 9000, lastTime} {
			until := min(c.Now+more, lastTime)
			want, fired, good := slowRun(c, until)
			what := fmt.Sprint("RunClock ", c, " ", until)
			got := purely(t, what, impl.RunClock, c, until)
			wantRun(t, what, got, want, fired, good)
			if good && !impl.GoodClock(got[0].(impl.Clock)) {
				t.Errorf("%s: it is not good then", what)
			}
			many += len(fired)
		}
	}
	if many < 10000 {
		t.Error("hardly anything fired:", many)
	}
}

func TestRunClockUntil(t *testing.T) {
	for what, c := range goodClocks() {
		for _, until := range append(timeNumbers(), c.Now-1, c.Now, c.Now+1) {
			want, fired, good := slowRun(c, until)
			asked := fmt.Sprint("RunClock ", what, " ", until)
			wantRun(t, asked, purely(t, asked, impl.RunClock, c, until), want, fired, good)
		}
		asked := "below Now: " + what
		wantRun(t, asked, purely(t, asked, impl.RunClock, c, c.Now-1), impl.Clock{}, nil, false)
		asked = "beyond: " + what
		wantRun(t, asked, purely(t, asked, impl.RunClock, c, lastTime+1), impl.Clock{}, nil, false)
	}
}

func TestRunClockMaxFired(t *testing.T) {
	refused := func(what string, c impl.Clock, until int) {
		t.Helper()
		wantRun(t, what, purely(t, what, impl.RunClock, c, until), impl.Clock{}, nil, false)
	}
	just := func(what string, c impl.Clock, until int, left impl.Clock) {
		t.Helper()
		got := purely(t, what, impl.RunClock, c, until)
		if !alike(got[0], left) || len(got[1].([]impl.Fired)) != 2000 || got[2] != true {
			t.Errorf("%s: %v, %d fired, %v", what, got[0], len(got[1].([]impl.Fired)), got[2])
		}
	}
	two := clockOf(0, often(1, 1, 1, 1000), often(2, 1, 1, 1000))
	just("two often", two, 5000, clockOf(5000))
	just("two often, just then", two, 1000, clockOf(1000))
	more := clockOf(0, often(1, 1, 1, 1000), often(2, 1, 1, 1000), once(3, 2000))
	just("one more waits", more, 1999, clockOf(1999, once(3, 2000)))
	refused("one more fires", more, 2000)
	refused("one more fires, to the end", more, lastTime)
	three := clockOf(0, often(1, 1, 1, 1000), often(2, 1, 2, 1000), often(3, 1000, 1000, 1000))
	just("in the midst", three, 1997, clockOf(1997, often(2, 1999, 2, 1), often(3, 2000, 1000, 999)))
	just("one time behind it", three, 1998, clockOf(1998, often(2, 1999, 2, 1), often(3, 2000, 1000, 999)))
	refused("the next one", three, 1999)
	full := clockOf(0)
	for id := range 20 {
		full.Timers = append(full.Timers, often(id, 1, 1, 1000))
	}
	then := clockOf(100)
	for id := range 20 {
		then.Timers = append(then.Timers, often(id, 101, 1, 900))
	}
	just("a full clock", full, 100, then)
	refused("a full clock, one time more", full, 101)
	refused("a full clock, to the end", full, lastTime)
	// What is refused at once goes in pieces, each of them with what it may fire.
	wantRun(t, "the rest of it", purely(t, "the rest", impl.RunClock, clockOf(1999, once(3, 2000)), 2000), clockOf(2000), fires(2000, 3), true)
}

// runBy runs a clock to each of the times in turn, and gives all that fired.
func runBy(t *testing.T, c impl.Clock, times ...int) (impl.Clock, []impl.Fired) {
	t.Helper()
	var all []impl.Fired
	for _, until := range times {
		then, fired, ok := impl.RunClock(c, until)
		if !ok {
			t.Fatalf("RunClock %v %d is refused", c, until)
		}
		c, all = then, append(all, fired...)
	}
	return c, all
}

// Promise 5: time cut in pieces fires the same.
func TestTimeCutInPiecesFiresTheSame(t *testing.T) {
	cut, pieces := 0, 0
	for seed, c := range clockSpread() {
		until := min(c.Now+40+seed%30, lastTime)
		want, fired, ok := impl.RunClock(c, until)
		if !ok {
			continue
		}
		same := func(times ...int) {
			t.Helper()
			then, all := runBy(t, c, append(times, until)...)
			if !alike(then, want) || !alike(all, fired) {
				t.Fatalf("RunClock %v by %v to %d: %v %v, wanted %v %v", c, times, until, then, all, want, fired)
			}
		}
		var every []int
		for on := c.Now; on <= until; on++ {
			same(on)
			same(c.Now, on, on)
			every = append(every, on)
			cut++
		}
		same(every...)
		for try := range 5 {
			var some []int
			for i, coin := range coins(seed*5+try+1, len(every)) {
				if coin>>4%4 == 0 {
					some = append(some, every[i])
				}
			}
			same(some...)
			pieces += len(some)
		}
	}
	if cut < 1000 || pieces < 1000 {
		t.Error("hardly cut:", cut, pieces)
	}
}

// Promise 5 over a whole time: wide clocks cut at coins' times, up to the end.
func TestAWholeTimeCutInPiecesFiresTheSame(t *testing.T) {
	for seed := range 40 {
		c := coinClock(seed+301, 8000)
		want, fired, ok := impl.RunClock(c, lastTime)
		if !ok {
			t.Fatal("too much fires", c)
		}
		times := []int{}
		for _, coin := range coins(seed+401, 30) {
			times = append(times, c.Now+coin*3%(lastTime+1-c.Now))
		}
		slices.Sort(times)
		then, all := runBy(t, c, append(times, lastTime)...)
		if !alike(then, want) || !alike(all, fired) {
			t.Fatalf("RunClock %v by %v: %v %v, wanted %v %v", c, times, then, all, want, fired)
		}
	}
}

func TestClocksThatAreNotGoodGiveNothing(t *testing.T) {
	for what, c := range badClocks() {
		for _, x := range timeNumbers() {
			wantClock(t, what, purely(t, what, impl.DropTimer, c, x), impl.Clock{}, false)
			wantRun(t, what, purely(t, what, impl.RunClock, c, x), impl.Clock{}, nil, false)
		}
		wantRun(t, what, purely(t, what, impl.RunClock, c, c.Now), impl.Clock{}, nil, false)
		for _, timer := range append(slices.Clone(c.Timers), once(1, 50), once(2, 50), once(3, lastTime+7), once(500, 60)) {
			wantClock(t, what, purely(t, what, impl.AddTimer, c, timer), impl.Clock{}, false)
			wantClock(t, what, purely(t, what, impl.DropTimer, c, timer.Id), impl.Clock{}, false)
		}
	}
}

// slowEase works with whole numbers without end.
func slowEase(kind int, part int) int {
	times := func(a int, b int) int { return nearestCut(bigMul(a, b), big.NewInt(65536)) }
	if part < 0 || part > 65536 {
		return 0
	}
	switch kind {
	case 1:
		return part
	case 2:
		return times(part, part)
	case 3:
		return 65536 - times(65536-part, 65536-part)
	case 4:
		return times(times(part, part), 3*65536-2*part)
	}
	return 0
}

func TestEaseAtTold(t *testing.T) {
	for _, c := range []struct{ part, line, in, out, both int }{
		{0, 0, 0, 0, 0},
		{1, 1, 0, 2, 0},
		{2, 2, 0, 4, 0},
		{180, 180, 0, 360, 0},
		{182, 182, 1, 363, 3},
		{256, 256, 1, 511, 3},
		{16384, 16384, 4096, 28672, 10240},
		{32768, 32768, 16384, 49152, 32768},
		{49152, 49152, 36864, 61440, 55296},
		{65534, 65534, 65532, 65536, 65536},
		{65535, 65535, 65534, 65536, 65536},
		{65536, 65536, 65536, 65536, 65536},
		{-1, 0, 0, 0, 0},
		{65537, 0, 0, 0, 0},
		{-65536, 0, 0, 0, 0},
		{131072, 0, 0, 0, 0},
		{math.MinInt, 0, 0, 0, 0},
		{math.MaxInt, 0, 0, 0, 0},
	} {
		for i, want := range []int{c.line, c.in, c.out, c.both} {
			if got := purely(t, "EaseAt", impl.EaseAt, i+1, c.part); got[0] != want {
				t.Errorf("EaseAt %d %d: %v, not %d", i+1, c.part, got, want)
			}
		}
	}
	for _, kind := range []int{math.MinInt, -4, -1, 0, 5, 6, 257, math.MaxInt} {
		for _, part := range []int{-1, 0, 1, 32768, 65536, 65537} {
			if got := purely(t, "EaseAt", impl.EaseAt, kind, part); got[0] != 0 {
				t.Errorf("EaseAt of no kind %d %d: %v", kind, part, got)
			}
		}
	}
}

// Every part of every kind; none goes beyond the whole way.
func TestEaseAtExactly(t *testing.T) {
	for kind := 0; kind <= 5; kind++ {
		for part := -3; part <= wholeOne+3; part++ {
			got := impl.EaseAt(kind, part)
			if got != slowEase(kind, part) || got < 0 || got > wholeOne {
				t.Fatalf("EaseAt(%d, %d): %d, not %d", kind, part, got, slowEase(kind, part))
			}
		}
	}
}

// slowTween asks for all that the document asks for, with whole numbers without end.
func slowTween(from int, to int, kind int, begin int, span int, time int) (int, bool) {
	fixed := func(n int) bool { return n >= -(1<<40) && n <= 1<<40 }
	timed := func(n int) bool { return n >= 0 && n <= 100000 }
	if !fixed(from) || !fixed(to) || kind < 1 || kind > 4 || !timed(begin) || !timed(time) || span < 1 || span > 100000 {
		return 0, false
	}
	switch {
	case time-begin < 0:
		return from, true
	case time-begin >= span:
		return to, true
	case !fixed(to - from):
		return 0, false
	}
	part := new(big.Int).Div(bigMul(time-begin, 65536), big.NewInt(int64(span)))
	then := from + nearestCut(bigMul(to-from, slowEase(kind, int(part.Int64()))), big.NewInt(65536))
	return then, fixed(then)
}

func wantTween(t *testing.T, got []any, want int, good bool, asked ...int) {
	t.Helper()
	if len(got) != 2 || got[0] != want || got[1] != good {
		t.Errorf("TweenAt %v: %v, wanted %d with %v", asked, got, want, good)
	}
}

func TestTweenAtTold(t *testing.T) {
	for _, c := range []struct {
		from, to, kind, begin, span, time int
		want                              int
		good                              bool
	}{
		{100, 300, 1, 10, 4, 0, 100, true},
		{100, 300, 1, 10, 4, 9, 100, true},
		{100, 300, 1, 10, 4, 10, 100, true},
		{100, 300, 1, 10, 4, 11, 150, true},
		{100, 300, 1, 10, 4, 12, 200, true},
		{100, 300, 1, 10, 4, 13, 250, true},
		{100, 300, 1, 10, 4, 14, 300, true},
		{100, 300, 1, 10, 4, 15, 300, true},
		{100, 300, 1, 10, 4, lastTime, 300, true},
		{100, 300, 2, 10, 4, 11, 113, true}, // 12.5 more: halves go to the greater
		{100, 300, 3, 10, 4, 11, 188, true}, // 87.5 more
		{100, 300, 4, 10, 4, 11, 131, true}, // 31.25 more
		{300, 100, 2, 10, 4, 11, 288, true}, // 12.5 less: halves go to the greater
		{300, 100, 3, 10, 4, 11, 213, true},
		{300, 100, 4, 10, 4, 11, 269, true},
		{300, 100, 1, 10, 4, 9, 300, true},
		{300, 100, 1, 10, 4, 14, 100, true},
		{7, 7, 4, 0, lastTime, 5, 7, true},
		{0, 65536, 1, 0, 3, 1, 21845, true}, // a part is cut down
		{0, 65536, 1, 0, 3, 2, 43690, true},
		{0, -65536, 1, 0, 3, 2, -43690, true},
		{0, 65536, 1, 0, 1, 0, 0, true},
		{0, 65536, 1, 0, 1, 1, 65536, true},
		{0, 65536, 1, lastTime, lastTime, lastTime, 0, true},
		{0, 65536, 1, lastTime, 1, lastTime - 1, 0, true},
		{0, 65536, 1, 1, lastTime, lastTime, 65535, true},
		{0, 65536, 1, 0, lastTime, lastTime, 65536, true},
		{0, impl.MaxFixed, 1, 0, 2, 1, impl.MaxFixed / 2, true},
		{0, -impl.MaxFixed, 1, 0, 2, 1, -impl.MaxFixed / 2, true},
		{impl.MaxFixed, impl.MaxFixed, 2, 0, 2, 1, impl.MaxFixed, true},
		{-impl.MaxFixed, 0, 3, 0, 2, 1, -impl.MaxFixed / 4, true},
		// to less from just as great as may be, and one beyond
		{-impl.MaxFixed / 2, impl.MaxFixed / 2, 1, 0, 2, 1, 0, true},
		{-impl.MaxFixed / 2, impl.MaxFixed/2 + 1, 1, 0, 2, 1, 0, false},
		{impl.MaxFixed / 2, -impl.MaxFixed/2 - 1, 1, 0, 2, 1, 0, false},
		{-1, impl.MaxFixed, 1, 0, 2, 1, 0, false},
		{-1, impl.MaxFixed, 1, 0, 2, 0, 0, false},
		{-impl.MaxFixed, impl.MaxFixed, 4, 5, 2, 6, 0, false},
		{impl.MaxFixed, -impl.MaxFixed, 4, 5, 2, 6, 0, false},
		// ahead of it and behind it nothing is on its way
		{-impl.MaxFixed, impl.MaxFixed, 4, 5, 2, 4, -impl.MaxFixed, true},
		{-impl.MaxFixed, impl.MaxFixed, 4, 5, 2, 7, impl.MaxFixed, true},
	} {
		got := purely(t, "TweenAt", impl.TweenAt, c.from, c.to, c.kind, c.begin, c.span, c.time)
		wantTween(t, got, c.want, c.good, c.from, c.to, c.kind, c.begin, c.span, c.time)
	}
}

func TestTweenAtWrong(t *testing.T) {
	wrong := func(args ...int) {
		t.Helper()
		got, ok := impl.TweenAt(args[0], args[1], args[2], args[3], args[4], args[5])
		wantTween(t, []any{got, ok}, 0, false, args...)
	}
	// ahead of begin, on the way, and behind
	for _, time := range []int{3, 10, 12, 20, 90} {
		for _, x := range notFixed() {
			wrong(x, 5, 1, 10, 10, time)
			wrong(5, x, 1, 10, 10, time)
			wrong(x, x, 1, 10, 10, time)
		}
		for _, kind := range []int{math.MinInt, -1, 0, 5, 6, math.MaxInt} {
			wrong(1, 2, kind, 10, 10, time)
		}
		for _, begin := range []int{math.MinInt, -lastTime, -1, lastTime + 1, math.MaxInt} {
			wrong(1, 2, 1, begin, 10, time)
		}
		for _, span := range []int{math.MinInt, -10, -1, 0, lastTime + 1, math.MaxInt} {
			wrong(1, 2, 1, 10, span, time)
		}
	}
	for _, time := range []int{math.MinInt, -lastTime, -1, lastTime + 1, math.MaxInt} {
		for _, begin := range []int{0, 10, lastTime} {
			wrong(1, 2, 1, begin, 10, time)
			wrong(1, 2, 4, begin, lastTime, time)
		}
	}
}

func TestTweenAtExactly(t *testing.T) {
	for _, from := range fixedSpread() {
		for _, to := range fixedSpread() {
			for i, when := range [][3]int{{0, 1, 0}, {7, 3, 8}, {7, 3, 9}, {7, 3, 10}, {5, 10007, 4999}, {0, lastTime, lastTime - 1}, {lastTime, 9, lastTime}} {
				kind := 1 + (from&3+to&3+i)%4
				got, ok := impl.TweenAt(from, to, kind, when[0], when[1], when[2])
				want, good := slowTween(from, to, kind, when[0], when[1], when[2])
				wantTween(t, []any{got, ok}, want, good, from, to, kind, when[0], when[1], when[2])
				if good && (got < min(from, to) || got > max(from, to)) {
					t.Fatalf("TweenAt %d %d %d %v: %d is not between them", from, to, kind, when, got)
				}
			}
		}
	}
}

// A whole way of each kind, at each time.
func TestTweenAtAlongTheWay(t *testing.T) {
	ends := coinFixed(5, 60)
	for i := 0; i+1 < len(ends); i += 2 {
		from, to := ends[i]/2, ends[i+1]/2
		for kind := 1; kind <= 4; kind++ {
			begin, span := i, 1+i*3
			last := from
			for time := 0; time <= begin+span+3; time++ {
				got, ok := impl.TweenAt(from, to, kind, begin, span, time)
				want, good := slowTween(from, to, kind, begin, span, time)
				wantTween(t, []any{got, ok}, want, good, from, to, kind, begin, span, time)
				if from <= to && got < last || from >= to && got > last {
					t.Fatalf("TweenAt %d %d %d %d %d goes back at %d", from, to, kind, begin, span, time)
				}
				last = got
			}
		}
	}
}

// Promise 29: clocks and timers of any numbers; what is answered is what the document says of them.
func TestTimeAnswersAtAnyArguments(t *testing.T) {
	numbers := timeNumbers()
	good := 0
	for seed := range 400 {
		row := coins(seed+1, 150)
		next := func(below int) int {
			c := row[0] >> 3 % below
			row = row[1:]
			return c
		}
		number := func() int { return numbers[next(len(numbers))] }
		c := clockOf(next(10))
		if next(6) == 0 {
			c.Now = number()
		}
		for i := range next(8) {
			timer := often(i*9+next(9), 10+next(10), 1+next(4), 1+next(20))
			switch next(24) {
			case 0:
				timer.Id = number()
			case 1:
				timer.At = number()
			case 2:
				timer.Every = number()
			case 3:
				timer.Left = number()
			}
			c.Timers = append(c.Timers, timer)
		}
		isGood := slowGoodClock(c)
		if got := purely(t, "GoodClock", impl.GoodClock, c); got[0] != isGood {
			t.Fatalf("GoodClock %v: %v", c, got)
		}
		if isGood {
			good++
		}
		until := number()
		want, fired, ok := slowRun(c, until)
		wantRun(t, "RunClock", purely(t, "RunClock", impl.RunClock, c, until), want, fired, ok)
		timer := often(numbers[4+next(20)], number(), number(), number())
		added, may := slowAdd(c, timer)
		wantClock(t, "AddTimer", purely(t, "AddTimer", impl.AddTimer, c, timer), added, may)
		id := number()
		var fewer impl.Clock
		at := slices.IndexFunc(c.Timers, func(t impl.Timer) bool { return t.Id == id })
		if isGood && at >= 0 {
			fewer = impl.Clock{Now: c.Now, Timers: slices.Concat(c.Timers[:at], c.Timers[at+1:])}
		}
		wantClock(t, "DropTimer", purely(t, "DropTimer", impl.DropTimer, c, id), fewer, isGood && at >= 0)
		kind, part := number(), number()
		if got := purely(t, "EaseAt", impl.EaseAt, kind, part); got[0] != slowEase(kind, part) {
			t.Fatalf("EaseAt %d %d: %v", kind, part, got)
		}
		args := []int{number(), number(), 1 + next(5), number(), number(), number()}
		tween, tweens := slowTween(args[0], args[1], args[2], args[3], args[4], args[5])
		got := purely(t, "TweenAt", impl.TweenAt, args[0], args[1], args[2], args[3], args[4], args[5])
		wantTween(t, got, tween, tweens, args...)
	}
	if good == 0 || good == 400 {
		t.Error("good were", good)
	}
}

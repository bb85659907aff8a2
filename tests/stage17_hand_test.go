package tests

import (
	"fmt"
	"math"
	"slices"
	"strconv"
	"strings"
	"testing"

	"loop.example/g00064/impl"
)

const mostBinds = 20
const mostChord = 4
const mostKeys = 100
const mostMoments = 200
const mostCombo = 10

func bind(action string, chord ...int) impl.Bind {
	return impl.Bind{Action: action, Chord: chord}
}

func binds(l ...impl.Bind) []impl.Bind { return l }

// cutAtSign reads a text as 12+rest or 12-rest.
func cutAtSign(text string) (int, bool, string) {
	at := strings.IndexAny(text, "+-")
	time, err := strconv.Atoi(text[:at])
	if err != nil {
		panic(err)
	}
	return time, text[at] == '+', text[at+1:]
}

// presses reads events: 3+7 is the key 7 that goes down at 3, 4-7 the same that goes up at 4.
func presses(texts string) []impl.Press {
	var out []impl.Press
	for _, text := range strings.Fields(texts) {
		time, down, rest := cutAtSign(text)
		key, err := strconv.Atoi(rest)
		if err != nil {
			panic(err)
		}
		out = append(out, impl.Press{Time: time, Key: key, Down: down})
	}
	return out
}

// moments reads what is meant: 3+jump is jump that goes on at 3, 4-jump the same that goes off at 4.
func moments(texts string) []impl.Meant {
	var out []impl.Meant
	for _, text := range strings.Fields(texts) {
		time, on, action := cutAtSign(text)
		out = append(out, impl.Meant{Time: time, Action: action, On: on})
	}
	return out
}

// manyBinds gives so many, each with a key of its own.
func manyBinds(many int) []impl.Bind {
	var out []impl.Bind
	for i, name := range manyNames(many) {
		out = append(out, bind(name, i))
	}
	return out
}

// manyPresses gives so many, a key that goes down and up and the next one.
func manyPresses(many int) []impl.Press {
	var out []impl.Press
	for i := range many {
		out = append(out, impl.Press{Time: i, Key: i / 2 % mostKeys, Down: i%2 == 0})
	}
	return out
}

func manyMoments(many int) []impl.Meant {
	var out []impl.Meant
	for i := range many {
		out = append(out, impl.Meant{Time: i, Action: "a", On: true})
	}
	return out
}

func slowGoodChord(chord []int) bool {
	good := within(1, len(chord), 4)
	for i, key := range chord {
		good = good && within(0, key, 99) && !slices.ContainsFunc(chord[:i], func(k int) bool { return k >= key })
	}
	return good
}

func slowGoodBinds(l []impl.Bind) bool {
	if len(l) > 20 {
		return false
	}
	for i, b := range l {
		if !slowGoodName(b.Action) || !slowGoodChord(b.Chord) {
			return false
		}
		for _, ahead := range l[:i] {
			if strings.Compare(ahead.Action, b.Action) != -1 || fmt.Sprint(ahead.Chord) == fmt.Sprint(b.Chord) {
				return false
			}
		}
	}
	return true
}

// slowRebind goes over all actions there are now or before, sorted, and asks for the chord of each.
func slowRebind(l []impl.Bind, action string, chord []int) ([]impl.Bind, string, bool) {
	if !slowGoodBinds(l) || !slowGoodName(action) || !slowGoodChord(chord) {
		return nil, "", false
	}
	names, chords, lost := []string{action}, map[string][]int{}, ""
	for _, b := range l {
		names = append(names, b.Action)
		chords[b.Action] = b.Chord
		if b.Action != action && fmt.Sprint(b.Chord) == fmt.Sprint(chord) {
			lost = b.Action
		}
	}
	chords[action] = chord
	slices.Sort(names)
	var out []impl.Bind
	for _, name := range slices.Compact(names) {
		if name != lost {
			out = append(out, bind(name, chords[name]...))
		}
	}
	if len(out) > mostBinds {
		return nil, "", false
	}
	return out, lost, true
}

func slowGoodPresses(events []impl.Press) bool {
	good := len(events) <= 200
	for i, e := range events {
		good = good && within(0, e.Time, 100000) && within(0, e.Key, 99) && (i == 0 || events[i-1].Time <= e.Time)
	}
	return good
}

// slowIsDown asks for the last event of a key.
func slowIsDown(events []impl.Press, key int) bool {
	for _, e := range slices.Backward(events) {
		if e.Key == key {
			return e.Down
		}
	}
	return false
}

func slowHeldAt(events []impl.Press, time int) ([]int, bool) {
	if !slowGoodPresses(events) || !within(0, time, 100000) {
		return nil, false
	}
	var head []impl.Press
	for _, e := range events {
		if e.Time <= time {
			head = append(head, e)
		}
	}
	var out []int
	for key := range mostKeys {
		if slowIsDown(head, key) {
			out = append(out, key)
		}
	}
	return out, true
}

// slowHolding tells of each bind, behind all these events, whether it holds.
func slowHolding(l []impl.Bind, events []impl.Press) []bool {
	down, out := make([]bool, len(l)), make([]bool, len(l))
	for i, b := range l {
		down[i] = !slices.ContainsFunc(b.Chord, func(key int) bool { return !slowIsDown(events, key) })
	}
	for i, b := range l {
		out[i] = down[i]
		for j, other := range l {
			// Two chords have different keys, so that the one that has all of another's is longer.
			both := slices.Compact(slices.Sorted(slices.Values(slices.Concat(b.Chord, other.Chord))))
			if i != j && down[j] && slices.Equal(both, other.Chord) {
				out[i] = false
			}
		}
	}
	return out
}

// slowMeant looks at each head of the events from the beginning.
func slowMeant(l []impl.Bind, events []impl.Press) ([]impl.Meant, bool) {
	if !slowGoodBinds(l) || !slowGoodPresses(events) {
		return nil, false
	}
	var out []impl.Meant
	for n := range events {
		ahead, behind := slowHolding(l, events[:n]), slowHolding(l, events[:n+1])
		for i, b := range l {
			if ahead[i] != behind[i] {
				out = append(out, impl.Meant{Time: events[n].Time, Action: b.Action, On: behind[i]})
			}
		}
	}
	return out, true
}

func slowGoodMoments(list []impl.Meant) bool {
	good := len(list) <= 200
	for i, m := range list {
		good = good && slowGoodName(m.Action) && within(0, m.Time, 100000) && (i == 0 || list[i-1].Time <= m.Time)
	}
	return good
}

func slowBuffered(list []impl.Meant, action string, time int, window int) (int, bool) {
	if !slowGoodMoments(list) || !slowGoodName(action) || !within(0, time, 100000) || !within(0, window, 100000) {
		return 0, false
	}
	out := -1
	for i, m := range list {
		if m.On && m.Action == action && within(0, time-m.Time, window) {
			out = i
		}
	}
	return out, true
}

// slowCombo goes backwards from each moment through those that went on, as long as they are the names.
func slowCombo(list []impl.Meant, combo []string, most int) ([]int, bool) {
	good := slowGoodMoments(list) && within(1, len(combo), 10) && within(0, most, 100000)
	for _, name := range combo {
		good = good && slowGoodName(name)
	}
	if !good {
		return nil, false
	}
	var out []int
	for end := range list {
		left := slices.Clone(combo)
		for at := end; at >= 0 && list[end].On && len(left) > 0; at-- {
			if !list[at].On {
				continue
			}
			if list[at].Action != left[len(left)-1] || list[end].Time-list[at].Time > most {
				break
			}
			left = left[:len(left)-1]
		}
		if len(left) == 0 {
			out = append(out, end)
		}
	}
	return out, true
}

func wantGoodBinds(t *testing.T, what string, l []impl.Bind, want bool) {
	t.Helper()
	if got := purely(t, "GoodBinds", impl.GoodBinds, l); got[0] != want || slowGoodBinds(l) != want {
		t.Errorf("%s: GoodBinds %v = %v, want %v", what, l, got, want)
	}
}

func wantRebind(t *testing.T, what string, l []impl.Bind, action string, chord []int, want []impl.Bind, lost string, good bool) {
	t.Helper()
	got := purely(t, "Rebind", impl.Rebind, l, action, chord)
	if !alike(got[0], want) || got[1] != lost || got[2] != good {
		t.Errorf("%s: Rebind %v, %q, %v = %v, want %v, %q, %v", what, l, action, chord, got, want, lost, good)
	}
}

// wantSlowRebind asks for what the slow one gives.
func wantSlowRebind(t *testing.T, what string, l []impl.Bind, action string, chord []int) {
	t.Helper()
	want, lost, good := slowRebind(l, action, chord)
	wantRebind(t, what, l, action, chord, want, lost, good)
}

func wantMeant(t *testing.T, what string, l []impl.Bind, events []impl.Press, want []impl.Meant, good bool) {
	t.Helper()
	got := purely(t, "MeantBy", impl.MeantBy, l, events)
	if !alike(got[0], want) || got[1] != good {
		t.Errorf("%s: MeantBy %v, %v = %v, want %v, %v", what, l, events, got, want, good)
	}
}

// wantSlowMeant asks for what the slow one gives.
func wantSlowMeant(t *testing.T, what string, l []impl.Bind, events []impl.Press) {
	t.Helper()
	want, good := slowMeant(l, events)
	wantMeant(t, what, l, events, want, good)
}

func wantHeldAt(t *testing.T, what string, events []impl.Press, time int, want []int, good bool) {
	t.Helper()
	got := purely(t, "HeldAt", impl.HeldAt, events, time)
	if !alike(got[0], want) || got[1] != good {
		t.Errorf("%s: HeldAt %v, %d = %v, want %v, %v", what, events, time, got, want, good)
	}
}

// wantSlowHeldAt asks for what the slow one gives.
func wantSlowHeldAt(t *testing.T, what string, events []impl.Press, time int) {
	t.Helper()
	want, good := slowHeldAt(events, time)
	wantHeldAt(t, what, events, time, want, good)
}

func wantBuffered(t *testing.T, what string, list []impl.Meant, action string, time int, window int, want int, good bool) {
	t.Helper()
	got := purely(t, "Buffered", impl.Buffered, list, action, time, window)
	if got[0] != want || got[1] != good {
		t.Errorf("%s: Buffered %v, %q, %d, %d = %v, want %d, %v", what, list, action, time, window, got, want, good)
	}
}

// wantSlowBuffered asks for what the slow one gives.
func wantSlowBuffered(t *testing.T, what string, list []impl.Meant, action string, time int, window int) {
	t.Helper()
	want, good := slowBuffered(list, action, time, window)
	wantBuffered(t, what, list, action, time, window, want, good)
}

func wantCombo(t *testing.T, what string, list []impl.Meant, combo []string, most int, want []int, good bool) {
	t.Helper()
	got := purely(t, "ComboAt", impl.ComboAt, list, combo, most)
	if !alike(got[0], want) || got[1] != good {
		t.Errorf("%s: ComboAt %v, %v, %d = %v, want %v, %v", what, list, combo, most, got, want, good)
	}
}

// wantSlowCombo asks for what the slow one gives.
func wantSlowCombo(t *testing.T, what string, list []impl.Meant, combo []string, most int) {
	t.Helper()
	want, good := slowCombo(list, combo, most)
	wantCombo(t, what, list, combo, most, want, good)
}

// goodHands holds binds at each limit that the document names.
func goodHands() map[string][]impl.Bind {
	return map[string][]impl.Bind{
		"none":                       nil,
		"one":                        binds(bind("a", 0)),
		"one of the last key":        binds(bind("a", 99)),
		"one of the most keys":       binds(bind("a", 0, 1, 98, 99)),
		"two and three keys":         binds(bind("a", 0, 99), bind("b", 5, 6, 7)),
		"as many as may be":          manyBinds(mostBinds),
		"names by bytes":             binds(bind("B", 1), bind("Z", 2), bind("_", 3), bind("a", 4), bind("aB", 5), bind("a_", 6), bind("aa", 7)),
		"a name that ends":           binds(bind("a", 1), bind("a0", 2), bind("a00", 3)),
		"a long name":                binds(bind("a", 1), bind(longName, 2)),
		"chords in one another":      binds(bind("a", 1, 2, 3), bind("b", 2), bind("c", 1, 2)),
		"chords that share keys":     binds(bind("a", 1, 2), bind("b", 2, 3), bind("c", 1, 3)),
		"chords that begin the same": binds(bind("a", 1), bind("b", 1, 2), bind("c", 1, 2, 3), bind("d", 1, 2, 3, 4)),
	}
}

// badChords holds chords that are not good, in each way that the document names.
func badChords() map[string][]int {
	out := map[string][]int{
		"of no key":              {},
		"of one key too many":    {1, 2, 3, 4, 5},
		"of far too many":        counted(100),
		"that falls":             {2, 1},
		"that falls at its end":  {1, 2, 4, 3},
		"that falls to 0":        {1, 2, 3, 0},
		"with a key twice":       {3, 3},
		"with the last twice":    {1, 2, 3, 3},
		"with 0 twice":           {0, 0},
		"from -1 on":             {-1, 0, 1},
		"up to MaxKeys":          {97, 98, 99, 100},
		"of MaxKeys":             {100},
		"of -1":                  {-1},
		"of -1 and -2":           {-2, -1},
		"of keys behind MaxKeys": {100, 101},
	}
	for _, far := range append(farNumbers(), 1<<32, 1<<32+1, -100, 256) {
		out[fmt.Sprint("of ", far)] = []int{far}
		out[fmt.Sprint("of 0 and ", far)] = []int{0, far}
		out[fmt.Sprint("of ", far, " and 5")] = []int{far, 5}
	}
	return out
}

// badHands holds binds that are not good, in each way that the document names.
func badHands() map[string][]impl.Bind {
	out := map[string][]impl.Bind{
		"one too many":                manyBinds(mostBinds + 1),
		"far too many":                manyBinds(90),
		"nothing":                     {{}},
		"two of one Action":           binds(bind("a", 1), bind("a", 2)),
		"two of one Action, in midst": binds(bind("a", 1), bind("b", 2), bind("b", 3), bind("c", 4)),
		"two that fall":               binds(bind("b", 1), bind("a", 2)),
		"the last two fall":           binds(bind("a", 1), bind("c", 2), bind("b", 3)),
		"the first two fall":          binds(bind("b", 1), bind("a", 2), bind("c", 3)),
		"a longer one ahead":          binds(bind("aa", 1), bind("a", 2)),
		"a small letter ahead":        binds(bind("a", 1), bind("B", 2)),
		"a digit behind":              binds(bind("a_", 1), bind("a0", 2)),
		"back to the first Action":    binds(bind("a", 1), bind("b", 2), bind("a", 3)),
		"the same chord":              binds(bind("a", 1), bind("b", 1)),
		"the same chord of four":      binds(bind("a", 1, 2, 3, 4), bind("b", 1, 2, 3, 4)),
		"the same chord, apart":       binds(bind("a", 1, 2), bind("b", 2), bind("c", 1), bind("d", 1, 2)),
		"the same chord at the end":   binds(bind("a", 1), bind("b", 2, 3), bind("c", 2, 3)),
		"the same of many":            append(manyBinds(mostBinds - 1)[:mostBinds-1:mostBinds-1], bind("z", 0)),
		"all of one chord":            binds(bind("a", 7), bind("b", 7), bind("c", 7)),
	}
	for i, name := range badNames() {
		out[fmt.Sprint("the only Action no name ", i)] = binds(bind(name, 1))
		out[fmt.Sprint("an Action no name ", i)] = binds(bind(name, 1), bind("zz", 2))
		out[fmt.Sprint("the last Action no name ", i)] = binds(bind("A", 1), bind(name, 2))
	}
	for what, chord := range badChords() {
		out["the only chord one "+what] = binds(bind("a", chord...))
		out["the first chord one "+what] = binds(bind("a", chord...), bind("b", 50))
		out["the last chord one "+what] = binds(bind("a", 50), bind("b", 51), bind("c", chord...))
	}
	return out
}

// goodEvents holds events at each limit that the document names.
func goodEvents() map[string][]impl.Press {
	return map[string][]impl.Press{
		"none":                 nil,
		"one":                  presses("0+0"),
		"one up":               presses("0-0"),
		"the last key":         presses("0+99"),
		"at MaxTime":           presses("100000+5"),
		"from first to last":   presses("0+0 100000-0"),
		"Times alike":          presses("5+1 5+2 5-1 5+1"),
		"all at MaxTime":       presses("100000+1 100000-1 100000+2"),
		"as many as may be":    manyPresses(mostMoments),
		"as many at one Time":  slices.Repeat(presses("3+1"), mostMoments),
		"down twice, up twice": presses("1+4 2+4 3-4 4-4"),
	}
}

// badEvents holds events that are not good, in each way that the document names.
func badEvents() map[string][]impl.Press {
	out := map[string][]impl.Press{
		"one too many":           manyPresses(mostMoments + 1),
		"one too many, at once":  slices.Repeat(presses("3+1"), mostMoments+1),
		"far too many":           slices.Repeat(presses("0+0"), 5000),
		"Times that fall":        presses("1+1 0+2"),
		"Times that fall, last":  presses("1+1 2+2 3+1 2-1"),
		"Times that fall, first": presses("9+1 2+2 3+1 4-1"),
		"Times back to 0":        presses("0+1 100000+2 0-1"),
	}
	for _, time := range append(farNumbers(), -1, 100001, -100000, 1<<32, 1<<32+5) {
		odd := impl.Press{Time: time, Key: 1, Down: true}
		out[fmt.Sprint("the only Time ", time)] = []impl.Press{odd}
		out[fmt.Sprint("the first Time ", time)] = append([]impl.Press{odd}, presses("5+1 6-1")...)
		out[fmt.Sprint("the last Time ", time)] = append(presses("5+1 6-1"), odd)
	}
	for _, key := range append(farNumbers(), -1, 100, -99, 1<<32, 1<<32+5) {
		for _, down := range []bool{false, true} {
			odd := impl.Press{Time: 5, Key: key, Down: down}
			out[fmt.Sprint("the only Key ", key, down)] = []impl.Press{odd}
			out[fmt.Sprint("the first Key ", key, down)] = append([]impl.Press{odd}, presses("5+1 6-1")...)
			out[fmt.Sprint("the last Key ", key, down)] = append(presses("3+1 5-1"), odd)
		}
	}
	return out
}

// badTimes are numbers that are no times.
func badTimes() []int {
	return append(farNumbers(), -1, 100001, -100000, 1<<32, 1<<32+1, -1<<32)
}

func TestHandConstants(t *testing.T) {
	if impl.MaxBinds != mostBinds || impl.MaxChord != mostChord || impl.MaxKeys != mostKeys || impl.MaxMoments != mostMoments {
		t.Error(impl.MaxBinds, impl.MaxChord, impl.MaxKeys, impl.MaxMoments)
	}
}

func TestGoodBinds(t *testing.T) {
	for what, l := range goodHands() {
		wantGoodBinds(t, what, l, true)
	}
	for what, l := range badHands() {
		wantGoodBinds(t, what, l, false)
	}
	full := manyBinds(mostBinds)
	full[mostBinds-1].Chord = []int{0, 1, 2, 3}
	wantGoodBinds(t, "a long chord last", full, true)
	for i := range mostBinds {
		spoilt := manyBinds(mostBinds)
		spoilt[i].Chord = []int{(i + 7) % mostBinds}
		wantGoodBinds(t, "any two of the same chord", spoilt, false)
		spoilt = manyBinds(mostBinds)
		spoilt[i].Chord = nil
		wantGoodBinds(t, "any one without a chord", spoilt, false)
	}
}

// smallHands has binds at a first, a middle and a last place.
func smallHands() []impl.Bind {
	return binds(bind("crouch", 2), bind("dash", 1, 2), bind("jump", 1))
}

func TestRebindTold(t *testing.T) {
	for _, c := range []struct {
		what   string
		l      []impl.Bind
		action string
		chord  []int
		want   []impl.Bind
		lost   string
	}{
		{"the first bind of all", nil, "jump", []int{1}, binds(bind("jump", 1)), ""},
		{"the longest chord", nil, "jump", []int{0, 1, 98, 99}, binds(bind("jump", 0, 1, 98, 99)), ""},
		{"the first place", smallHands(), "crouch", []int{9}, binds(bind("crouch", 9), bind("dash", 1, 2), bind("jump", 1)), ""},
		{"a middle place", smallHands(), "dash", []int{9}, binds(bind("crouch", 2), bind("dash", 9), bind("jump", 1)), ""},
		{"the last place", smallHands(), "jump", []int{9}, binds(bind("crouch", 2), bind("dash", 1, 2), bind("jump", 9)), ""},
		{"its own chord, first", smallHands(), "crouch", []int{2}, smallHands(), ""},
		{"its own chord, middle", smallHands(), "dash", []int{1, 2}, smallHands(), ""},
		{"its own chord, last", smallHands(), "jump", []int{1}, smallHands(), ""},
		{"the chord of the one ahead", smallHands(), "dash", []int{2}, binds(bind("dash", 2), bind("jump", 1)), "crouch"},
		{"the chord of the one behind", smallHands(), "dash", []int{1}, binds(bind("crouch", 2), bind("dash", 1)), "jump"},
		{"the last takes from the first", smallHands(), "jump", []int{2}, binds(bind("dash", 1, 2), bind("jump", 2)), "crouch"},
		{"the first takes from the last", smallHands(), "crouch", []int{1}, binds(bind("crouch", 1), bind("dash", 1, 2)), "jump"},
		{"the last takes from the middle", smallHands(), "jump", []int{1, 2}, binds(bind("crouch", 2), bind("jump", 1, 2)), "dash"},
		{"a new one, first", smallHands(), "aim", []int{9}, binds(bind("aim", 9), bind("crouch", 2), bind("dash", 1, 2), bind("jump", 1)), ""},
		{"a new one, middle", smallHands(), "fire", []int{9}, binds(bind("crouch", 2), bind("dash", 1, 2), bind("fire", 9), bind("jump", 1)), ""},
		{"a new one, last", smallHands(), "run", []int{9}, binds(bind("crouch", 2), bind("dash", 1, 2), bind("jump", 1), bind("run", 9)), ""},
		{"a new one with a great letter", smallHands(), "Run", []int{9}, binds(bind("Run", 9), bind("crouch", 2), bind("dash", 1, 2), bind("jump", 1)), ""},
		{"a new one by a longer name", smallHands(), "dash2", []int{9}, binds(bind("crouch", 2), bind("dash", 1, 2), bind("dash2", 9), bind("jump", 1)), ""},
		{"a new one by a shorter name", smallHands(), "das", []int{9}, binds(bind("crouch", 2), bind("das", 9), bind("dash", 1, 2), bind("jump", 1)), ""},
		{"a new one takes, first", smallHands(), "aim", []int{1}, binds(bind("aim", 1), bind("crouch", 2), bind("dash", 1, 2)), "jump"},
		{"a new one takes, middle", smallHands(), "fire", []int{2}, binds(bind("dash", 1, 2), bind("fire", 2), bind("jump", 1)), "crouch"},
		{"a new one takes, last", smallHands(), "run", []int{1}, binds(bind("crouch", 2), bind("dash", 1, 2), bind("run", 1)), "jump"},
		{"a new one takes all", binds(bind("a", 3)), "b", []int{3}, binds(bind("b", 3)), "a"},
		{"a part of another chord", smallHands(), "run", []int{0, 1}, binds(bind("crouch", 2), bind("dash", 1, 2), bind("jump", 1), bind("run", 0, 1)), ""},
		{"more than another chord", smallHands(), "run", []int{1, 2, 3}, binds(bind("crouch", 2), bind("dash", 1, 2), bind("jump", 1), bind("run", 1, 2, 3)), ""},
	} {
		wantRebind(t, c.what, c.l, c.action, c.chord, c.want, c.lost, true)
		wantSlowRebind(t, c.what, c.l, c.action, c.chord)
	}
}

func TestRebindAtTheMost(t *testing.T) {
	full, nearly := manyBinds(mostBinds), manyBinds(mostBinds-1)
	wantRebind(t, "one more", nearly, "z", []int{50}, append(slices.Clone(nearly), bind("z", 50)), "", true)
	wantRebind(t, "one too many", full, "z", []int{50}, nil, "", false)
	wantRebind(t, "one too many, ahead", full, "a", []int{50}, nil, "", false)
	wantRebind(t, "too many ahead of it", manyBinds(mostBinds+1), "n05", []int{50}, nil, "", false)
	wantRebind(t, "too many, though one goes", manyBinds(mostBinds+1), "n05", []int{7}, nil, "", false)
	for i := range mostBinds {
		name := full[i].Action
		moved := manyBinds(mostBinds)
		moved[i].Chord = []int{50, 51}
		wantRebind(t, "one that is there", full, name, []int{50, 51}, moved, "", true)
		wantRebind(t, "its own", full, name, []int{i}, full, "", true)
		behind := append(slices.Delete(manyBinds(mostBinds), i, i+1), bind("z", i))
		wantRebind(t, "another's bind goes", full, "z", []int{i}, behind, name, true)
		ahead := append(binds(bind("a", i)), slices.Delete(manyBinds(mostBinds), i, i+1)...)
		wantRebind(t, "another's bind goes, ahead", full, "a", []int{i}, ahead, name, true)
		for j := range mostBinds {
			wantSlowRebind(t, "one takes from another", full, name, []int{j})
		}
	}
}

func TestRebindOfWrongInputs(t *testing.T) {
	for what, l := range badHands() {
		wantRebind(t, what, l, "a", []int{60}, nil, "", false)
		wantRebind(t, what, l, "zz", []int{1}, nil, "", false)
		wantRebind(t, what, l, "b", []int{2}, nil, "", false)
	}
	for _, l := range [][]impl.Bind{nil, smallHands(), manyBinds(mostBinds)} {
		for _, name := range badNames() {
			wantRebind(t, "no name", l, name, []int{1}, nil, "", false)
			wantRebind(t, "no name", l, name, []int{60}, nil, "", false)
		}
		for what, chord := range badChords() {
			wantRebind(t, what, l, "jump", chord, nil, "", false)
			wantRebind(t, what, l, "n03", chord, nil, "", false)
		}
	}
	for what, l := range goodHands() {
		for _, action := range []string{"a", "b", "aB", "n03", "zz", longName} {
			for _, chord := range [][]int{{0}, {99}, {1, 2}, {2, 3}, {0, 1, 98, 99}, {5}} {
				wantSlowRebind(t, what, l, action, chord)
			}
		}
	}
}

func coinChord(next func(int) int, keys int) []int {
	var out []int
	for range 1 + next(mostChord) {
		out = append(out, next(keys))
	}
	slices.Sort(out)
	return slices.Compact(out)
}

// coinBinds gives binds of few keys, so that their chords meet one another.
func coinBinds(next func(int) int, many int, keys int) []impl.Bind {
	var out []impl.Bind
	for _, name := range manyNames(many) {
		b := bind(name, coinChord(next, keys)...)
		if next(5) > 0 && !slices.ContainsFunc(out, func(o impl.Bind) bool { return slices.Equal(o.Chord, b.Chord) }) {
			out = append(out, b)
		}
	}
	return out
}

func coinPresses(next func(int) int, many int, keys int) []impl.Press {
	var out []impl.Press
	time := next(10)
	for range many {
		out = append(out, impl.Press{Time: time, Key: next(keys), Down: next(5) < 3})
		time += next(3) * next(4)
	}
	return out
}

func TestRebindOfCoins(t *testing.T) {
	for seed := range 1500 {
		next := coinRow(seed + 17000)
		l := coinBinds(next, 1+next(22), 4+next(4))
		for range 4 {
			name, chord := coinOf(next, append(manyNames(22), "a", "z")), coinChord(next, 6)
			wantSlowRebind(t, "coins", l, name, chord)
			if then, _, good := impl.Rebind(l, name, chord); good {
				wantGoodBinds(t, "coins", then, true)
				again, lost, good := impl.Rebind(then, name, chord)
				if !good || lost != "" || !alike(again, then) {
					t.Fatal(l, name, chord, then, again, lost, good)
				}
				l = then
			}
		}
	}
}

func TestHeldTold(t *testing.T) {
	for _, c := range []struct {
		what   string
		events string
		time   int
		want   []int
	}{
		{"no event", "", 0, nil},
		{"no event, late", "", 100000, nil},
		{"at its Time", "5+1", 5, []int{1}},
		{"ahead of it", "5+1", 4, nil},
		{"behind it", "5+1", 6, []int{1}},
		{"far behind it", "5+1", 100000, []int{1}},
		{"at 0", "0+1", 0, []int{1}},
		{"at the last Time", "100000+1", 100000, []int{1}},
		{"just ahead of the last Time", "100000+1", 99999, nil},
		{"between two", "3+1 7+2", 5, []int{1}},
		{"at the second", "3+1 7+2", 7, []int{1, 2}},
		{"rising", "0+9 1+0 2+99 3+4", 10, []int{0, 4, 9, 99}},
		{"a key goes up", "0+9 1+4 2-9", 2, []int{4}},
		{"a key goes up later", "0+9 1+4 2-9", 1, []int{4, 9}},
		{"down twice", "0+9 1+9", 1, []int{9}},
		{"down twice and up", "0+9 1+9 2-9", 2, nil},
		{"up twice", "0+9 1-9 2-9", 2, nil},
		{"up twice and down", "0+9 1-9 2-9 3+9", 3, []int{9}},
		{"up and never down", "0-9 1+4 1-3", 5, []int{4}},
		{"up ahead of down", "0-9 1+9", 1, []int{9}},
		{"all at one Time", "2+1 2-1 2+3 2+1 2-3", 2, []int{1}},
		{"all at one Time, ahead", "2+1 2-1 2+3 2+1 2-3", 1, nil},
	} {
		wantHeldAt(t, c.what, presses(c.events), c.time, c.want, true)
		wantSlowHeldAt(t, c.what, presses(c.events), c.time)
	}
	var all []impl.Press
	for key := range mostKeys {
		all = append(all, impl.Press{Key: mostKeys - 1 - key, Down: true})
	}
	wantHeldAt(t, "all keys", all, 0, counted(mostKeys), true)
}

func TestHeldOfWrongInputs(t *testing.T) {
	for what, events := range goodEvents() {
		for _, time := range []int{0, 1, 2, 3, 4, 5, 150, 99999, 100000} {
			wantSlowHeldAt(t, what, events, time)
		}
		for _, time := range badTimes() {
			wantHeldAt(t, what, events, time, nil, false)
		}
	}
	for what, events := range badEvents() {
		for _, time := range []int{0, 5, 100000, -1} {
			wantHeldAt(t, what, events, time, nil, false)
		}
	}
}

// What is held at a time is what is held behind the events up to it, whatever follows.
func TestHeldHangsOnNothingLater(t *testing.T) {
	for seed := range 300 {
		next := coinRow(seed + 17100)
		events := coinPresses(next, next(60), 2+next(90))
		for head := range len(events) + 1 {
			time := 0
			if head > 0 {
				time = events[head-1].Time
			}
			wantSlowHeldAt(t, "coins", events[:head], time)
			wantSlowHeldAt(t, "coins, all", events, time)
			wantSlowHeldAt(t, "coins, between", events, time+1)
			if head < len(events) && events[head].Time == time || head == 0 {
				continue
			}
			some, _ := impl.HeldAt(events[:head], time)
			all, _ := impl.HeldAt(events, time)
			if !slices.Equal(some, all) {
				t.Fatal(events, head, some, all)
			}
		}
	}
}

func TestMeantTold(t *testing.T) {
	apart := binds(bind("left", 1, 2), bind("right", 2, 3))
	nested := binds(bind("a", 1, 2, 3), bind("b", 1, 2), bind("c", 1))
	for _, c := range []struct {
		what   string
		l      []impl.Bind
		events string
		want   string
	}{
		{"no bind, no event", nil, "", ""},
		{"no bind", nil, "0+1 1-1", ""},
		{"no event", smallHands(), "", ""},
		{"one event", binds(bind("a", 1)), "3+1", "3+a"},
		{"another key", binds(bind("a", 1)), "3+2 4-2", ""},
		{"on and off", binds(bind("a", 1)), "3+1 5-1 5+1 9-1", "3+a 5-a 5+a 9-a"},
		{"down twice", binds(bind("a", 1)), "3+1 4+1 5-1", "3+a 5-a"},
		{"up twice", binds(bind("a", 1)), "3+1 4-1 5-1 6+1", "3+a 4-a 6+a"},
		{"up and never down", binds(bind("a", 1)), "3-1 4-1", ""},
		{"all at one Time", binds(bind("a", 1)), "7+1 7-1 7+1", "7+a 7-a 7+a"},
		{"the first and last key", binds(bind("a", 0), bind("b", 99)), "0+99 100000+0", "0+b 100000+a"},
		{"a chord, key by key", binds(bind("a", 1, 2, 3, 4)), "0+4 1+2 2+1 3+3 4-2", "3+a 4-a"},
		{"a chord is off at its first key", binds(bind("a", 1, 2)), "0+1 1+2 2-1 3-2 4+2 5+1", "1+a 2-a 5+a"},
		{"others that are down", binds(bind("a", 1, 2)), "0+9 1+1 2+8 3+2 4-9 5-1", "3+a 5-a"},
		{"the longer takes the shorter", smallHands(), "0+1 1+2", "0+jump 1+dash 1-jump"},
		{"the other shorter one", smallHands(), "0+2 1+1", "0+crouch 1-crouch 1+dash"},
		{"a longer one ends, one stays", smallHands(), "0+1 1+2 2-2 3-1", "0+jump 1+dash 1-jump 2-dash 2+jump 3-jump"},
		{"a longer one ends, the other stays", smallHands(), "0+1 1+2 2-1 3-2", "0+jump 1+dash 1-jump 2+crouch 2-dash 3-crouch"},
		{"a longer one comes and goes", smallHands(), "0+1 1+2 2-2 3+2 4-2", "0+jump 1+dash 1-jump 2-dash 2+jump 3+dash 3-jump 4-dash 4+jump"},
		{"share keys, neither has all", apart, "0+2 1+1 2+3 3-2", "1+left 2+right 3-left 3-right"},
		{"share keys, one ends", apart, "0+1 0+2 0+3 5-1 6-3", "0+left 0+right 5-left 6-right"},
		{"share keys, as long", binds(bind("a", 1, 2), bind("b", 1, 3), bind("c", 2, 3)), "0+1 1+2 2+3 3-1", "1+a 2+b 2+c 3-a 3-b"},
		{"a longer one without all keys", binds(bind("a", 1, 2), bind("b", 2, 3, 4)), "0+1 0+2 1+3 2+4", "0+a 2+b"},
		{"a longer one that shares no key", binds(bind("a", 1), bind("b", 2, 3)), "0+1 0+2 1+3", "0+a 1+b"},
		{"three in one another", nested, "0+1 1+2 2+3 3-3 4-2 5-1", "0+c 1+b 1-c 2+a 2-b 3-a 3+b 4-b 4+c 5-c"},
		{"three at once", nested, "0+3 1+2 2+1 3-1", "2+a 3-a"},
		{"from three to one", nested, "0+1 1+2 2+3 3-2", "0+c 1+b 1-c 2+a 2-b 3-a 3+c"},
		{"one that is taken takes", binds(bind("a", 1, 2, 3), bind("b", 1, 2), bind("c", 2)), "0+1 0+2 0+3", "0+b 0+a 0-b"},
		{"two longer ones", binds(bind("a", 1, 2), bind("b", 1, 3), bind("c", 1)), "0+1 1+2 2+3 3-2 4-3", "0+c 1+a 1-c 2+b 3-a 4-b 4+c"},
		{"several go on", binds(bind("a", 1, 5), bind("b", 2, 5), bind("c", 3, 5)), "0+3 0+2 0+1 4+5 6-5", "4+a 4+b 4+c 6-a 6-b 6-c"},
		{"on and off by the binds' order", binds(bind("a", 1), bind("b", 1, 5), bind("c", 2), bind("d", 2, 5)), "0+1 1+2 2+5 3-5", "0+a 1+c 2-a 2+b 2-c 2+d 3+a 3-b 3+c 3-d"},
		{"a taken one ends unheard", smallHands(), "0+1 1+2 2-1 3+1 4-2", "0+jump 1+dash 1-jump 2+crouch 2-dash 3-crouch 3+dash 4-dash 4+jump"},
	} {
		wantMeant(t, c.what, c.l, presses(c.events), moments(c.want), true)
		wantSlowMeant(t, c.what, c.l, presses(c.events))
	}
}

func TestMeantAtTheMost(t *testing.T) {
	var fan []impl.Bind
	for i, name := range manyNames(mostBinds) {
		fan = append(fan, bind(name, 0, 10+i))
	}
	var events []impl.Press
	for i := range mostBinds {
		events = append(events, impl.Press{Key: 10 + i, Down: true})
	}
	for i := len(events); i < mostMoments; i++ {
		events = append(events, impl.Press{Time: i, Down: i%2 == 0})
	}
	got, good := impl.MeantBy(fan, events)
	if !good || len(got) != mostBinds*(mostMoments-mostBinds) {
		t.Error(len(got), good)
	}
	wantSlowMeant(t, "all binds at each event", fan, events)
	wantSlowMeant(t, "one event too many", fan, append(events, impl.Press{Time: mostMoments, Key: 1}))
	wantMeant(t, "one bind too many", append(fan, bind("z", 1)), events, nil, false)
	wantSlowMeant(t, "a bind for each key", manyBinds(mostBinds), manyPresses(mostMoments))
}

func TestMeantOfWrongInputs(t *testing.T) {
	for what, l := range goodHands() {
		for _, events := range goodEvents() {
			wantSlowMeant(t, what, l, events)
		}
		for _, events := range badEvents() {
			wantMeant(t, what, l, events, nil, false)
		}
	}
	for what, l := range badHands() {
		for _, events := range [][]impl.Press{nil, presses("0+1"), presses("0+1 1+2 2-1"), manyPresses(mostMoments)} {
			wantMeant(t, what, l, events, nil, false)
		}
	}
}

// All sets of chords of three keys, from all keys that may be down, by all ways of two events.
func TestMeantOfAllSmallHands(t *testing.T) {
	chords := [][]int{{1}, {2}, {3}, {1, 2}, {1, 3}, {2, 3}, {1, 2, 3}}
	for bits := range 1 << len(chords) {
		var l []impl.Bind
		for i, chord := range chords {
			if bits>>i&1 == 1 {
				l = append(l, bind("a"+strconv.Itoa(i*3%7), chord...))
			}
		}
		slices.SortFunc(l, func(a impl.Bind, b impl.Bind) int { return strings.Compare(a.Action, b.Action) })
		for way := range 8 * 6 * 6 {
			var events []impl.Press
			for key := range 3 {
				if way>>key&1 == 1 {
					events = append(events, impl.Press{Key: 1 + key, Down: true})
				}
			}
			for time, step := range []int{way / 8 % 6, way / 48} {
				events = append(events, impl.Press{Time: 1 + time, Key: 1 + step%3, Down: step < 3})
			}
			want, _ := slowMeant(l, events)
			if got, good := impl.MeantBy(l, events); !good || !slices.Equal(got, want) {
				t.Fatal(l, events, got, want, good)
			}
		}
	}
}

// inTurn tells whether each action goes on first, then off, and so on.
func inTurn(list []impl.Meant) bool {
	on := map[string]bool{}
	for _, m := range list {
		if m.On == on[m.Action] {
			return false
		}
		on[m.Action] = m.On
	}
	return true
}

// Promise 17.
func TestWhatIsMeantGoesOnAndOffInTurn(t *testing.T) {
	most := 0
	for seed := range 700 {
		next := coinRow(seed + 17200)
		keys := 3 + next(8)
		l, events := coinBinds(next, 1+next(mostBinds), keys), coinPresses(next, next(mostMoments+1), keys)
		got, good := impl.MeantBy(l, events)
		if !good || !inTurn(got) {
			t.Fatal(l, events, got, good)
		}
		wantSlowMeant(t, "coins", l, events)
		most = max(most, len(got))
		head, good := impl.MeantBy(l, events[:len(events)/2])
		if !good || len(head) > len(got) || !slices.Equal(head, got[:len(head)]) {
			t.Fatal("a head of the events means other things", l, events, head, got)
		}
		for key := range keys {
			events = append(events[:min(len(events), mostMoments-keys+key)], impl.Press{Time: 100000, Key: key})
		}
		up, good := impl.MeantBy(l, events)
		if !good || !inTurn(up) || len(up)%2 != 0 {
			t.Fatal("all keys are up and something is on", l, events, up)
		}
	}
	if most < mostMoments/2 {
		t.Error("nothing much was meant", most)
	}
}

// Which of the held ones are meant does not hang on the way that led there.
func TestMeantByWhatIsHeldAlone(t *testing.T) {
	for seed := range 300 {
		next := coinRow(seed + 17300)
		keys := 3 + next(5)
		l, events := coinBinds(next, 1+next(mostBinds), keys), coinPresses(next, next(80), keys)
		list, _ := impl.MeantBy(l, events)
		held, _ := impl.HeldAt(events, 100000)
		on := map[string]bool{}
		for _, m := range list {
			on[m.Action] = m.On
		}
		var short []impl.Press
		for _, key := range held {
			short = append(short, impl.Press{Key: key, Down: true})
		}
		list, _ = impl.MeantBy(l, short)
		again := map[string]bool{}
		for _, m := range list {
			again[m.Action] = m.On
		}
		for _, b := range l {
			if on[b.Action] != again[b.Action] {
				t.Fatal(l, events, held, b)
			}
		}
	}
}

// goodMoments holds meant ones at each limit that the document names.
func goodMoments() map[string][]impl.Meant {
	return map[string][]impl.Meant{
		"none":                nil,
		"one":                 moments("0+a"),
		"one that is not On":  moments("0-a"),
		"at MaxTime":          moments("100000+a"),
		"from first to last":  moments("0+a 100000+a"),
		"Times alike":         moments("5+a 5+b 5-a 5+a"),
		"as many as may be":   manyMoments(mostMoments),
		"as many at one Time": slices.Repeat(moments("3+a"), mostMoments),
		"On and On again":     moments("1+a 2+a 3-a 4-a"),
		"a long name":         moments("1+" + longName + " 2+_ 3+Z9"),
	}
}

// badMoments holds meant ones that are not good, in each way that the document names.
func badMoments() map[string][]impl.Meant {
	out := map[string][]impl.Meant{
		"nothing":                {{}},
		"one too many":           manyMoments(mostMoments + 1),
		"one too many, at once":  slices.Repeat(moments("3+a"), mostMoments+1),
		"far too many":           manyMoments(5000),
		"Times that fall":        moments("1+a 0+a"),
		"Times that fall, last":  moments("1+a 2+a 3+b 2-b"),
		"Times that fall, first": moments("9+a 2+a 3+b 4-b"),
		"an off one falls":       moments("5+a 4-a 6+a"),
	}
	for _, time := range badTimes() {
		for _, on := range []bool{false, true} {
			odd := impl.Meant{Time: time, Action: "a", On: on}
			out[fmt.Sprint("the only Time ", time, on)] = []impl.Meant{odd}
			out[fmt.Sprint("the first Time ", time, on)] = append([]impl.Meant{odd}, moments("5+a 6-a")...)
			out[fmt.Sprint("the last Time ", time, on)] = append(moments("5+a 6-a"), odd)
		}
	}
	for i, name := range badNames() {
		for _, on := range []bool{false, true} {
			odd := impl.Meant{Time: 5, Action: name, On: on}
			out[fmt.Sprint("the only Action no name ", i, on)] = []impl.Meant{odd}
			out[fmt.Sprint("the first Action no name ", i, on)] = append([]impl.Meant{odd}, moments("5+a 6-a")...)
			out[fmt.Sprint("the last Action no name ", i, on)] = append(moments("5+a 5-a"), odd)
		}
	}
	return out
}

func TestBufferedTold(t *testing.T) {
	const row = "3+jump 5-jump 7+dash 9+jump 9+dash 9+jump 12-jump 20+duck"
	for _, c := range []struct {
		what   string
		list   string
		action string
		time   int
		window int
		want   int
	}{
		{"none at all", "", "jump", 5, 5, -1},
		{"window 0 at it", row, "jump", 3, 0, 0},
		{"window 0 behind it", row, "jump", 4, 0, -1},
		{"window 0 ahead of it", row, "jump", 2, 0, -1},
		{"at the window's beginning", row, "jump", 8, 5, 0},
		{"just behind the window's beginning", row, "jump", 8, 4, -1},
		{"at the window's end", row, "dash", 7, 3, 2},
		{"behind the window's end", row, "dash", 6, 6, -1},
		{"in the window", row, "dash", 8, 4, 2},
		{"one that is not On", row, "jump", 5, 0, -1},
		{"one that is not On is passed by", row, "jump", 5, 2, 0},
		{"one that is not On, last", row, "jump", 12, 3, 5},
		{"not On, just too late", row, "jump", 13, 3, -1},
		{"several at one Time", row, "jump", 9, 0, 5},
		{"another at one Time", row, "dash", 9, 9, 4},
		{"the last one", row, "duck", 20, 0, 7},
		{"the last of all times", row, "jump", 100000, 100000, 5},
		{"a window beyond 0", row, "jump", 4, 100000, 0},
		{"an action that is never meant", row, "run", 20, 20, -1},
		{"a part of a name", row, "jum", 20, 20, -1},
		{"a longer name", row, "jumps", 20, 20, -1},
		{"another letter", row, "Jump", 20, 20, -1},
		{"at 0", "0+a", "a", 0, 0, 0},
		{"at the last Time", "0+a 100000+a", "a", 100000, 0, 1},
		{"just ahead of the last Time", "0+a 100000+a", "a", 99999, 99999, 0},
		{"just too small a window", "0+a 100000+a", "a", 99999, 99998, -1},
		{"off ones alone", "0-a 1-a", "a", 5, 5, -1},
	} {
		wantBuffered(t, c.what, moments(c.list), c.action, c.time, c.window, c.want, true)
		wantSlowBuffered(t, c.what, moments(c.list), c.action, c.time, c.window)
	}
}

func TestBufferedOfWrongInputs(t *testing.T) {
	for what, list := range goodMoments() {
		for _, action := range []string{"a", "b", longName, "Z9", "never"} {
			for _, time := range []int{0, 1, 3, 5, 199, 99999, 100000} {
				for _, window := range []int{0, 1, 2, 100, 99999, 100000} {
					wantSlowBuffered(t, what, list, action, time, window)
				}
			}
		}
		for _, bad := range badTimes() {
			wantBuffered(t, what, list, "a", bad, 5, 0, false)
			wantBuffered(t, what, list, "a", bad, 100000, 0, false)
			wantBuffered(t, what, list, "a", 5, bad, 0, false)
			wantBuffered(t, what, list, "a", bad, bad, 0, false)
		}
		for _, name := range badNames() {
			wantBuffered(t, what, list, name, 5, 5, 0, false)
		}
	}
	for what, list := range badMoments() {
		for _, action := range []string{"a", "b", ""} {
			wantBuffered(t, what, list, action, 5, 5, 0, false)
			wantBuffered(t, what, list, action, 100000, 100000, 0, false)
			wantBuffered(t, what, list, action, 0, 0, 0, false)
		}
	}
}

func TestBufferedInAllWindows(t *testing.T) {
	list := moments("0+a 0-a 2+b 3+a 3+a 5-a 6+a 6-a 6+b 9+a")
	for time := range 14 {
		for window := range 14 {
			for _, action := range []string{"a", "b", "c"} {
				wantSlowBuffered(t, "all windows", list, action, time, window)
			}
		}
	}
}

func TestComboTold(t *testing.T) {
	for _, c := range []struct {
		what  string
		list  string
		combo string
		most  int
		want  []int
	}{
		{"none at all", "", "a", 5, nil},
		{"one name", "0+a 1+b 2+a", "a", 0, []int{0, 2}},
		{"one name, off ones", "0+a 1-a 2+a 3-a", "a", 0, []int{0, 2}},
		{"one name, at one Time", "4+a 4+a 4+b 4+a", "a", 0, []int{0, 1, 3}},
		{"one name that is not there", "0+a 1+b", "c", 100000, nil},
		{"two names", "0+a 1+b 2+a 3+b", "a b", 5, []int{1, 3}},
		{"two names, the other order", "0+a 1+b 2+a 3+b", "b a", 5, []int{2}},
		{"too few yet", "0+b", "a b", 5, nil},
		{"one name of two", "0+a", "a b", 5, nil},
		{"just enough", "0+a 5+b", "a b", 5, []int{1}},
		{"one too few", "0+a 5+b", "a b", 4, nil},
		{"most 0", "3+a 3+b 4+a 5+b", "a b", 0, []int{1}},
		{"most 0 at three", "3+a 3+b 3+c", "a b c", 0, []int{2}},
		{"the first is too early", "0+a 4+b 5+c", "a b c", 4, nil},
		{"the first is just there", "0+a 4+b 5+c", "a b c", 5, []int{2}},
		{"from first to last", "0+a 100000+b", "a b", 100000, []int{1}},
		{"from first to last, too far", "0+a 100000+b", "a b", 99999, nil},
		{"another between", "0+a 1+x 2+b", "a b", 100, nil},
		{"an off one between", "0+a 1-a 2+b", "a b", 100, []int{2}},
		{"an off one of another between", "0+a 1-x 2+b 3-b", "a b", 100, []int{2}},
		{"off ones are none", "0-a 1+b", "a b", 100, nil},
		{"an off one at the end", "0+a 1-b", "a b", 100, nil},
		{"itself again", "0+a 1+a 2+a", "a a", 9, []int{1, 2}},
		{"itself again, three", "0+a 1+a 2+a 3+a", "a a a", 2, []int{2, 3}},
		{"meets itself", "0+a 1+b 2+a 3+b 4+a", "a b a", 2, []int{2, 4}},
		{"begins anew", "0+a 1+a 2+b", "a b", 9, []int{2}},
		{"begins anew within", "0+a 1+b 2+a 3+b 4+c", "a b c", 9, []int{4}},
		{"begins anew, two the same", "0+a 1+a 2+a 3+b", "a a b", 9, []int{3}},
		{"ten names", "0+a 1+b 2+c 3+d 4+e 5+f 6+g 7+h 8+i 9+j", "a b c d e f g h i j", 9, []int{9}},
		{"ten names, one too few", "0+a 1+b 2+c 3+d 4+e 5+f 6+g 7+h 8+i 9+j", "a b c d e f g h i j", 8, nil},
		{"ten names, the first another", "0+x 1+b 2+c 3+d 4+e 5+f 6+g 7+h 8+i 9+j", "a b c d e f g h i j", 9, nil},
		{"ten names, nine there", "1+b 2+c 3+d 4+e 5+f 6+g 7+h 8+i 9+j", "a b c d e f g h i j", 9, nil},
		{"ten of one", "0+a 0+a 0+a 0+a 0+a 0+a 0+a 0+a 0+a 0+a 0+a 1+a", "a a a a a a a a a a", 0, []int{9, 10}},
		{"others behind", "0+a 1+b 2+x", "a b", 9, []int{1}},
		{"parts of names", "0+ab 1+c", "a bc", 9, nil},
		{"another letter", "0+A 1+b", "a b", 9, nil},
	} {
		wantCombo(t, c.what, moments(c.list), strings.Fields(c.combo), c.most, c.want, true)
		wantSlowCombo(t, c.what, moments(c.list), strings.Fields(c.combo), c.most)
	}
}

// badCombos holds names that are no combo, in each way that the document names.
func badCombos() map[string][]string {
	out := map[string][]string{
		"no name":      {},
		"one too many": slices.Repeat([]string{"a"}, mostCombo+1),
		"far too many": slices.Repeat([]string{"a"}, 1000),
	}
	for i, name := range badNames() {
		out[fmt.Sprint("the only one no name ", i)] = []string{name}
		out[fmt.Sprint("the first one no name ", i)] = []string{name, "a"}
		out[fmt.Sprint("the last one no name ", i)] = append(slices.Repeat([]string{"a"}, mostCombo-1), name)
	}
	return out
}

func TestComboOfWrongInputs(t *testing.T) {
	combos := [][]string{{"a"}, {"a", "a"}, {"b", "a"}, slices.Repeat([]string{"a"}, mostCombo), {longName, "_", "Z9"}}
	for what, list := range goodMoments() {
		for _, combo := range combos {
			for _, most := range []int{0, 1, 2, 8, 9, 99999, 100000} {
				wantSlowCombo(t, what, list, combo, most)
			}
			for _, most := range badTimes() {
				wantCombo(t, what, list, combo, most, nil, false)
			}
		}
		for bad, combo := range badCombos() {
			wantCombo(t, what+", "+bad, list, combo, 5, nil, false)
			wantCombo(t, what+", "+bad, list, combo, 0, nil, false)
		}
	}
	for what, list := range badMoments() {
		for _, combo := range append(combos, nil) {
			wantCombo(t, what, list, combo, 5, nil, false)
			wantCombo(t, what, list, combo, 100000, nil, false)
		}
	}
	whole := counted(mostMoments)
	wantCombo(t, "as many as may be", manyMoments(mostMoments), []string{"a"}, 0, whole, true)
	wantCombo(t, "ten of as many", manyMoments(mostMoments), slices.Repeat([]string{"a"}, mostCombo), 9, whole[9:], true)
	wantCombo(t, "ten, too near", manyMoments(mostMoments), slices.Repeat([]string{"a"}, mostCombo), 8, nil, true)
}

func coinMoments(next func(int) int, many int, names []string) []impl.Meant {
	var out []impl.Meant
	time := next(10)
	for range many {
		out = append(out, impl.Meant{Time: time, Action: coinOf(next, names), On: next(4) > 0})
		time += next(3) * next(4)
	}
	return out
}

func TestBuffersAndCombosOfCoins(t *testing.T) {
	found, ended := 0, 0
	for seed := range 1500 {
		next := coinRow(seed + 17400)
		names := manyNames(1 + next(3))
		list := coinMoments(next, next(60), names)
		for range 6 {
			action, time, window := coinOf(next, names), next(120), next(30)
			wantSlowBuffered(t, "coins", list, action, time, window)
			if at, _ := impl.Buffered(list, action, time, window); at >= 0 {
				found++
			}
			var combo []string
			for range 1 + next(4) {
				combo = append(combo, coinOf(next, names))
			}
			wantSlowCombo(t, "coins", list, combo, next(25))
			if ends, _ := impl.ComboAt(list, combo, 100000); len(ends) > 0 {
				ended++
			}
		}
	}
	if found < 1000 || ended < 1000 {
		t.Error(found, ended)
	}
}

// What MeantBy gives is taken by the others: each that went on is the last one of its action up to its own number.
func TestMeantOnesAreBufferedAndCombined(t *testing.T) {
	events := presses("0+1 4-1 5+2 8+1 9-2 9-1 20+1 21-1 22+2")
	list, good := impl.MeantBy(smallHands(), events)
	told := moments("0+jump 4-jump 5+crouch 8-crouch 8+dash 9-dash 9+jump 9-jump 20+jump 21-jump 22+crouch")
	if !good || !slices.Equal(list, told) {
		t.Fatal(list, good)
	}
	wantBuffered(t, "of what is meant", list, "jump", 10, 3, 6, true)
	wantBuffered(t, "of what is meant, too late", list, "jump", 13, 3, -1, true)
	wantCombo(t, "of what is meant", list, []string{"crouch", "dash", "jump"}, 4, []int{6}, true)
	wantCombo(t, "of what is meant, too slow", list, []string{"crouch", "dash", "jump"}, 3, nil, true)
}

// strangeHand gives a number at or beyond a limit of this chapter, or a small one.
func strangeHand(next func(int) int) int {
	return coinOf(next, append(farNumbers(), -1, 0, 1, 2, 3, 5, 98, 99, 100, 101, 99999, 100000, 100001, 1<<32, math.MinInt))
}

func strangeName(next func(int) int) string {
	return coinOf(next, append(badNames(), "a", "n00", "n01", "n05", longName))
}

func spoiledBinds(l []impl.Bind, next func(int) int) []impl.Bind {
	out := slices.Clone(l)
	if len(out) == 0 {
		return binds(bind(strangeName(next), strangeHand(next)))
	}
	at := next(len(out))
	switch next(4) {
	case 0:
		out[at].Action = strangeName(next)
	case 1:
		out[at].Chord = append(slices.Clone(out[at].Chord), strangeHand(next))
	case 2:
		out[at].Chord = slices.Clone(out[next(len(out))].Chord)
	case 3:
		out[at].Chord = []int{strangeHand(next), strangeHand(next)}
	}
	return out
}

// Promise 29.
func TestHandsAnswerAtAnyArguments(t *testing.T) {
	kinds := map[string]int{}
	for seed := range 2500 {
		next := coinRow(seed + 2917)
		l, events := coinBinds(next, next(22), 3+next(5)), coinPresses(next, next(30), 3+next(5))
		list := coinMoments(next, next(30), manyNames(3))
		action, chord, time, window := coinOf(next, manyNames(5)), coinChord(next, 6), next(80), next(40)
		combo := []string{coinOf(next, manyNames(3)), coinOf(next, manyNames(3))}[:1+next(2)]
		if next(4) == 0 {
			l = spoiledBinds(l, next)
		}
		if len(events) > 0 && next(4) == 0 {
			events[next(len(events))] = impl.Press{Time: strangeHand(next), Key: strangeHand(next), Down: next(2) == 0}
		}
		if len(list) > 0 && next(4) == 0 {
			list[next(len(list))] = impl.Meant{Time: strangeHand(next), Action: strangeName(next), On: next(2) == 0}
		}
		if next(4) == 0 {
			time, window = strangeHand(next), strangeHand(next)
			action = strangeName(next)
		}
		if next(8) == 0 {
			chord, combo[0] = []int{strangeHand(next), strangeHand(next)}, strangeName(next)
		}
		kinds[fmt.Sprint("binds ", slowGoodBinds(l))]++
		kinds[fmt.Sprint("events ", slowGoodPresses(events))]++
		kinds[fmt.Sprint("moments ", slowGoodMoments(list))]++
		wantGoodBinds(t, "any", l, slowGoodBinds(l))
		wantSlowRebind(t, "any", l, action, chord)
		wantSlowMeant(t, "any", l, events)
		wantSlowHeldAt(t, "any", events, time)
		wantSlowBuffered(t, "any", list, action, time, window)
		wantSlowCombo(t, "any", list, combo, window)
	}
	for _, kind := range []string{"binds true", "binds false", "events true", "events false", "moments true", "moments false"} {
		if kinds[kind] < 300 {
			t.Error(kinds)
		}
	}
}

package tests

import (
	"fmt"
	"math"
	"math/big"
	"slices"
	"testing"

	"loop.example/g00064/impl"
)

const mostActions = 12
const mostSteps = 20
const mostCost = 1000

func act(cost int, need int, lack int, gain int, lose int) impl.Action {
	return impl.Action{Name: "do", Cost: cost, Need: need, Lack: lack, Gain: gain, Lose: lose}
}

// factNumbers holds numbers around the facts, and far from them.
func factNumbers() []int {
	return []int{0, 1, 2, 3, 5, 128, 254, 255, -1, 256, 257, -255, 512, 1 << 32, math.MaxInt, math.MinInt}
}

// goodActions holds actions that stand just at the limits, and ordinary ones.
func goodActions() map[string]impl.Action {
	return map[string]impl.Action{
		"ordinary":                act(7, 1, 2, 4, 8),
		"nothing needed":          act(1, 0, 0, 0, 0),
		"Cost 1000":               act(mostCost, 1, 2, 4, 8),
		"Need 255":                act(7, 255, 0, 0, 1),
		"Lack 255":                act(7, 0, 255, 1, 0),
		"Gain 255":                act(7, 0, 0, 255, 0),
		"Lose 255":                act(7, 0, 0, 0, 255),
		"Gain and Lose are all":   act(7, 0, 0, 170, 85),
		"Need and Lack in common": act(7, 3, 6, 1, 0),
		"Need and Lack are all":   act(7, 255, 255, 0, 0),
		"Need and Gain in common": act(7, 3, 0, 3, 0),
		"Lack and Lose in common": act(7, 0, 3, 0, 3),
		"a long name":             {Name: longName, Cost: 1},
		"a short name":            {Name: "_", Cost: 1},
	}
}

// badActions holds actions that are not good, in each way that the document names.
func badActions() map[string]impl.Action {
	out := map[string]impl.Action{
		"nothing":                    {},
		"no name":                    {Cost: 1},
		"a name too long":            {Name: longName + "z", Cost: 1},
		"Cost 0":                     act(0, 0, 0, 1, 0),
		"Cost below 0":               act(-1, 0, 0, 1, 0),
		"Cost 1001":                  act(mostCost+1, 0, 0, 1, 0),
		"Cost far below":             act(math.MinInt, 0, 0, 1, 0),
		"Cost far beyond":            act(math.MaxInt, 0, 0, 1, 0),
		"Gain and Lose in common":    act(1, 0, 0, 1, 1),
		"Gain and Lose, all":         act(1, 0, 0, 255, 255),
		"Gain and Lose, the last":    act(1, 0, 0, 129, 130|128),
		"Gain and Lose, one of many": act(1, 0, 0, 170|1, 85),
	}
	for _, name := range badNames() {
		out[fmt.Sprintf("the name %q", name)] = impl.Action{Name: name, Cost: 1}
	}
	for _, n := range factNumbers() {
		if n < 0 || n > 255 {
			out[fmt.Sprint("Need ", n)] = act(1, n, 0, 0, 0)
			out[fmt.Sprint("Lack ", n)] = act(1, 0, n, 0, 0)
			out[fmt.Sprint("Gain ", n)] = act(1, 0, 0, n, 0)
			out[fmt.Sprint("Lose ", n)] = act(1, 0, 0, 0, n)
		}
	}
	return out
}

// slowHas asks for one bit by halving.
func slowHas(facts int, bit int) bool {
	for range bit {
		facts /= 2
	}
	return facts%2 == 1
}

func slowGoodFacts(n int) bool { return n >= 0 && n <= 255 }

func slowGoodAction(a impl.Action) bool {
	good := slowGoodName(a.Name) && a.Cost >= 1 && a.Cost <= 1000
	for _, n := range []int{a.Need, a.Lack, a.Gain, a.Lose} {
		good = good && slowGoodFacts(n)
	}
	for bit := range 8 {
		good = good && !(slowHas(a.Gain, bit) && slowHas(a.Lose, bit))
	}
	return good
}

// slowMet asks fact by fact.
func slowMet(facts int, need int, lack int) bool {
	met := true
	for bit := range 8 {
		there := slowHas(facts, bit)
		met = met && !(slowHas(need, bit) && !there) && !(slowHas(lack, bit) && there)
	}
	return met
}

func slowMayDo(facts int, a impl.Action) bool {
	return slowGoodFacts(facts) && slowGoodAction(a) && slowMet(facts, a.Need, a.Lack)
}

func slowAfter(facts int, a impl.Action) int {
	if !slowGoodFacts(facts) {
		return 0
	}
	if !slowMayDo(facts, a) {
		return facts
	}
	then := 0
	for bit, value := range []int{1, 2, 4, 8, 16, 32, 64, 128} {
		if slowHas(a.Gain, bit) || slowHas(facts, bit) && !slowHas(a.Lose, bit) {
			then += value
		}
	}
	return then
}

func slowGoodActions(actions []impl.Action) bool {
	return len(actions) <= 12 && !slices.ContainsFunc(actions, func(a impl.Action) bool { return !slowGoodAction(a) })
}

const endless = math.MaxInt / 2

// slowPlan works back from what is wanted: what it costs from each facts on with just so many
// actions; then it goes forward by the first action each time that costs no more.
func slowPlan(facts int, want int, lack int, actions []impl.Action) ([]int, int, bool) {
	if !slowGoodFacts(facts) || !slowGoodFacts(want) || !slowGoodFacts(lack) || !slowGoodActions(actions) {
		return nil, 0, false
	}
	var left [mostSteps + 1][256]int
	for steps := range left {
		for at := range 256 {
			left[steps][at] = endless
			if steps == 0 && slowMet(at, want, lack) {
				left[steps][at] = 0
			}
			for _, a := range actions {
				if steps > 0 && at&a.Need == a.Need && at&a.Lack == 0 {
					left[steps][at] = min(left[steps][at], a.Cost+left[steps-1][at&^a.Lose|a.Gain])
				}
			}
		}
	}
	many, cost := 0, endless
	for steps := range left {
		if left[steps][facts] < cost {
			many, cost = steps, left[steps][facts]
		}
	}
	if cost == endless {
		return nil, 0, false
	}
	var plan []int
	for ; many > 0; many-- {
		i := slices.IndexFunc(actions, func(a impl.Action) bool {
			return slowMayDo(facts, a) && a.Cost+left[many-1][slowAfter(facts, a)] == left[many][facts]
		})
		plan, facts = append(plan, i), slowAfter(facts, actions[i])
	}
	return plan, cost, true
}

func slowPlanCost(facts int, plan []int, actions []impl.Action) (int, int, bool) {
	if !slowGoodFacts(facts) || len(plan) > 20 || !slowGoodActions(actions) {
		return 0, 0, false
	}
	cost := 0
	for _, i := range plan {
		if i < 0 || i >= len(actions) || !slowMayDo(facts, actions[i]) {
			return 0, 0, false
		}
		cost += actions[i].Cost
		facts = slowAfter(facts, actions[i])
	}
	return cost, facts, true
}

func wantPlan(t *testing.T, what string, facts int, want int, lack int, actions []impl.Action, plan []int, cost int, found bool) {
	t.Helper()
	got := purely(t, what, impl.CheapestPlan, facts, want, lack, actions)
	if !alike(got[0], plan) || got[1] != cost || got[2] != found {
		t.Errorf("%s: CheapestPlan %d %d %d %v = %v, not %v %d %v", what, facts, want, lack, actions, got, plan, cost, found)
	}
}

func wantCost(t *testing.T, what string, facts int, plan []int, actions []impl.Action, cost int, end int, done bool) {
	t.Helper()
	got := purely(t, what, impl.PlanCost, facts, plan, actions)
	if got[0] != cost || got[1] != end || got[2] != done {
		t.Errorf("%s: PlanCost %d %v %v = %v, not %d %d %v", what, facts, plan, actions, got, cost, end, done)
	}
}

func TestConstantsOfMinds(t *testing.T) {
	if impl.MaxFacts != 8 || impl.MaxActions != mostActions || impl.MaxPlan != mostSteps {
		t.Error(impl.MaxFacts, impl.MaxActions, impl.MaxPlan)
	}
}

func TestGoodAction(t *testing.T) {
	for what, a := range goodActions() {
		if got := purely(t, what, impl.GoodAction, a); got[0] != true {
			t.Error(what, "was refused")
		}
	}
	for what, a := range badActions() {
		if got := purely(t, what, impl.GoodAction, a); got[0] != false {
			t.Error(what, "was taken")
		}
	}
}

func TestMayDoTold(t *testing.T) {
	for _, c := range []struct {
		facts int
		a     impl.Action
		may   bool
		then  int
	}{
		{0, act(1, 0, 0, 0, 0), true, 0},
		{255, act(1, 0, 0, 0, 0), true, 255},
		{0, act(1, 0, 255, 255, 0), true, 255},
		{255, act(1, 255, 0, 0, 255), true, 0},
		{3, act(1, 3, 4, 8, 1), true, 10},
		{3, act(1, 1, 4, 8, 1), true, 10},
		// one of what is needed is not there, one of what shall lack is
		{1, act(1, 3, 4, 8, 1), false, 1},
		{2, act(1, 3, 4, 8, 1), false, 2},
		{0, act(1, 3, 4, 8, 1), false, 0},
		{7, act(1, 3, 4, 8, 1), false, 7},
		{7, act(1, 3, 12, 0, 0), false, 7},
		{254, act(1, 255, 0, 0, 255), false, 254},
		{128, act(1, 0, 255, 255, 0), false, 128},
		// what is there already, and what is lost already
		{9, act(1, 1, 0, 8, 2), true, 9},
		{9, act(1, 1, 0, 1, 8), true, 1},
		{9, act(1, 9, 0, 6, 9), true, 6},
		// needed and lacking at once
		{0, act(1, 1, 1, 2, 0), false, 0},
		{1, act(1, 1, 1, 2, 0), false, 1},
		// actions that are none
		{5, act(0, 0, 0, 2, 0), false, 5},
		{5, act(1001, 0, 0, 2, 0), false, 5},
		{5, act(1, 0, 0, 2, 2), false, 5},
		{5, impl.Action{Cost: 1, Gain: 2}, false, 5},
		{5, act(1, 256, 0, 2, 0), false, 5},
		{5, act(1, 0, 256, 2, 0), false, 5},
		{5, act(1, 0, 0, 256, 0), false, 5},
		{5, act(1, 0, 0, 0, 256), false, 5},
		{5, act(1, 0, 0, -1, 0), false, 5},
		// facts that are none
		{-1, act(1, 0, 0, 2, 0), false, 0},
		{256, act(1, 0, 0, 2, 0), false, 0},
		{256 + 1, act(1, 1, 0, 2, 0), false, 0},
		{math.MinInt, act(1, 0, 0, 2, 0), false, 0},
		{math.MaxInt, act(1, 255, 0, 0, 2), false, 0},
		{-1, impl.Action{}, false, 0},
	} {
		if got := purely(t, "MayDo", impl.MayDo, c.facts, c.a); got[0] != c.may {
			t.Errorf("MayDo %d %v = %v", c.facts, c.a, got)
		}
		if got := purely(t, "AfterDoing", impl.AfterDoing, c.facts, c.a); got[0] != c.then {
			t.Errorf("AfterDoing %d %v = %v, not %d", c.facts, c.a, got, c.then)
		}
	}
}

// coinAction makes an action out of coins; the more of few, the rarer it may be done.
func coinAction(next func(int) int, few int) impl.Action {
	bits := func() int {
		out := 0
		for range next(few + 1) {
			out |= 1 << next(8)
		}
		return out
	}
	a := act(1+next(4), bits(), bits(), bits(), bits())
	a.Lose &^= a.Gain
	if next(8) == 0 {
		a.Cost = 1 + next(1000)
	}
	return a
}

func coinActions(seed int) []impl.Action {
	next := coinRow(seed + 1)
	var out []impl.Action
	few := 1 + next(3)
	for range 1 + next(mostActions) {
		out = append(out, coinAction(next, few))
	}
	return out
}

func TestMayDoFactByFact(t *testing.T) {
	next := coinRow(3)
	var done [2]int
	for range 150 {
		a := coinAction(next, 3)
		for facts := -2; facts < 259; facts++ {
			may := slowMayDo(facts, a)
			if got := impl.MayDo(facts, a); got != may {
				t.Fatalf("MayDo %d %v = %v", facts, a, got)
			}
			if got, then := impl.AfterDoing(facts, a), slowAfter(facts, a); got != then {
				t.Fatalf("AfterDoing %d %v = %d, not %d", facts, a, got, then)
			}
			if may {
				done[1]++
			} else {
				done[0]++
			}
		}
	}
	if done[0] < 1000 || done[1] < 1000 {
		t.Error("may not and may:", done)
	}
}

// counting gives actions that count the facts up by one, as a number; each number is just one action
// away from the one ahead of it.
func counting() []impl.Action {
	var out []impl.Action
	for bit := range 8 {
		here := 1 << bit
		out = append(out, act(10+bit, here-1, here, here, here-1))
	}
	return out
}

func TestCheapestPlanTold(t *testing.T) {
	chop := []impl.Action{act(2, 0, 0, 1, 0), act(3, 1, 0, 2, 1)}
	wantPlan(t, "ordinary", 0, 2, 0, chop, []int{0, 1}, 5, true)
	wantPlan(t, "on the way", 1, 2, 0, chop, []int{1}, 3, true)
	wantPlan(t, "both, an action twice", 0, 3, 0, chop, []int{0, 1, 0}, 7, true)
	wantPlan(t, "the other lacking", 0, 2, 1, chop, []int{0, 1}, 5, true)
	wantPlan(t, "what can't be had", 0, 4, 0, chop, nil, 0, false)
	wantPlan(t, "what can't be lost", 2, 1, 2, chop, nil, 0, false)
	wantPlan(t, "what can be lost", 1, 0, 1, chop, []int{1}, 3, true)
	wantPlan(t, "no action", 0, 1, 0, nil, nil, 0, false)
	wantPlan(t, "no action, nothing wanted", 0, 0, 0, nil, nil, 0, true)
	wantPlan(t, "no action, all is there", 255, 255, 0, nil, nil, 0, true)
	wantPlan(t, "no action, nothing is there", 0, 0, 255, nil, nil, 0, true)
	wantPlan(t, "no action, one too many", 255, 0, 128, nil, nil, 0, false)
	wantPlan(t, "there from the beginning", 3, 2, 4, chop, nil, 0, true)
	wantPlan(t, "there from the beginning, with more", 131, 3, 0, chop, nil, 0, true)
	wantPlan(t, "wanted and lacking", 0, 1, 1, chop, nil, 0, false)
	wantPlan(t, "wanted and lacking among others", 3, 3, 1, chop, nil, 0, false)
	wantPlan(t, "all wanted and lacking", 255, 255, 255, chop, nil, 0, false)
	wantPlan(t, "needs and lacks one fact", 0, 2, 0, []impl.Action{act(1, 1, 1, 2, 0), act(1, 0, 0, 1, 0)}, nil, 0, false)
	wantPlan(t, "beside such a one", 0, 2, 0, []impl.Action{act(1, 1, 1, 2, 0), act(9, 0, 1, 2, 0)}, []int{1}, 9, true)
	wantPlan(t, "all facts at once", 0, 255, 0, []impl.Action{act(mostCost, 0, 255, 255, 0)}, []int{0}, mostCost, true)
	wantPlan(t, "no fact any more", 255, 0, 255, []impl.Action{act(1, 255, 0, 0, 255)}, []int{0}, 1, true)
}

func TestCheapestPlanOfSeveral(t *testing.T) {
	// the cheaper one, with more actions, and whether it comes ahead or behind
	wantPlan(t, "cheaper in three", 0, 1, 0, []impl.Action{act(10, 0, 0, 1, 0), act(3, 0, 0, 2, 0), act(3, 2, 0, 4, 0), act(3, 4, 0, 1, 0)}, []int{1, 2, 3}, 9, true)
	wantPlan(t, "cheaper in one", 0, 1, 0, []impl.Action{act(3, 0, 0, 2, 0), act(3, 2, 0, 4, 0), act(3, 4, 0, 1, 0), act(8, 0, 0, 1, 0)}, []int{3}, 8, true)
	wantPlan(t, "cheaper, more on the way", 0, 16, 0, []impl.Action{act(5, 0, 0, 8, 0), act(2, 0, 0, 1, 0), act(2, 1, 0, 8, 0), act(1, 8, 0, 16, 0)}, []int{1, 2, 3}, 5, true)
	// the same cost: fewer actions, though the others come first
	wantPlan(t, "fewer", 0, 1, 0, []impl.Action{act(3, 0, 0, 2, 0), act(3, 2, 0, 4, 0), act(3, 4, 0, 1, 0), act(9, 0, 0, 1, 0)}, []int{3}, 9, true)
	wantPlan(t, "fewer by one", 0, 1, 0, []impl.Action{act(3, 0, 0, 2, 0), act(3, 2, 0, 4, 0), act(3, 4, 0, 1, 0), act(6, 2, 0, 1, 0)}, []int{0, 3}, 9, true)
	wantPlan(t, "fewer on the way", 0, 8, 0, []impl.Action{act(1, 0, 0, 1, 0), act(1, 1, 0, 2, 0), act(2, 0, 0, 2, 0), act(5, 2, 0, 8, 0)}, []int{2, 3}, 7, true)
	// the same cost and as many: the first number that is unlike decides
	wantPlan(t, "the first of two", 0, 1, 0, []impl.Action{act(5, 0, 0, 1, 0), act(5, 0, 0, 1, 0)}, []int{0}, 5, true)
	wantPlan(t, "in any order", 0, 7, 0, []impl.Action{act(5, 0, 0, 4, 0), act(4, 0, 0, 2, 0), act(3, 0, 0, 1, 0)}, []int{0, 1, 2}, 12, true)
	wantPlan(t, "the first number", 0, 4, 0, []impl.Action{act(1, 1, 0, 4, 0), act(3, 0, 0, 1, 0), act(1, 0, 0, 2, 0), act(3, 2, 0, 4, 0)}, []int{1, 0}, 4, true)
	wantPlan(t, "the first, with the last one greater", 0, 4, 0, []impl.Action{act(1, 0, 0, 2, 0), act(1, 1, 0, 4, 0), act(3, 0, 0, 1, 0), act(3, 2, 0, 4, 0)}, []int{0, 3}, 4, true)
	wantPlan(t, "the first through greater facts", 0, 4, 0, []impl.Action{act(2, 0, 0, 128, 0), act(2, 0, 0, 1, 0), act(2, 129, 0, 4, 0), act(2, 1, 128, 4, 0), act(2, 128, 1, 4, 0)}, []int{0, 4}, 4, true)
	// all ends that will do are weighed against each other
	wantPlan(t, "the end with greater facts", 0, 1, 0, []impl.Action{act(5, 0, 0, 1, 0), act(4, 0, 0, 129, 0)}, []int{1}, 4, true)
	wantPlan(t, "the end with lesser facts", 0, 1, 0, []impl.Action{act(5, 0, 0, 129, 0), act(4, 0, 0, 1, 0)}, []int{1}, 4, true)
	wantPlan(t, "ends of one cost", 0, 1, 0, []impl.Action{act(4, 0, 0, 129, 0), act(4, 0, 0, 1, 0)}, []int{0}, 4, true)
	wantPlan(t, "an end with fewer", 0, 1, 0, []impl.Action{act(2, 0, 0, 2, 0), act(2, 2, 0, 1, 2), act(4, 0, 0, 129, 0)}, []int{2}, 4, true)
}

func TestCheapestPlanAsLongAsMayBe(t *testing.T) {
	count := counting()
	costOf := func(plan []int) int {
		cost := 0
		for _, bit := range plan {
			cost += 10 + bit
		}
		return cost
	}
	var plan []int
	for n := 1; n <= 60; n++ {
		bit := 0
		for n>>bit&1 == 0 {
			bit++
		}
		plan = append(plan, bit)
		if n <= mostSteps {
			wantPlan(t, "counted", 0, n, 255-n, count, plan, costOf(plan), true)
			wantPlan(t, "counted from above", 64, 64+n, 191-n, count, plan, costOf(plan), true)
			wantCost(t, "counted", 0, plan, count, costOf(plan), n, true)
			continue
		}
		last := plan[n-mostSteps:]
		wantPlan(t, "counted too far", 0, n, 255-n, count, nil, 0, false)
		wantPlan(t, "counted one too far", n-mostSteps-1, n, 255-n, count, nil, 0, false)
		wantPlan(t, "counted as far as may be", n-mostSteps, n, 255-n, count, last, costOf(last), true)
		wantCost(t, "counted too far", 0, plan, count, 0, 0, false)
		wantCost(t, "counted as far as may be", n-mostSteps, last, count, costOf(last), n, true)
	}
	// dear and short, where the cheap one would be too long
	short := append(counting(), act(mostCost, 0, 0, 21, 0))
	wantPlan(t, "20 one by one", 0, 20, 235, short, plan[:20], costOf(plan[:20]), true)
	wantPlan(t, "21 at one blow", 0, 21, 234, short, []int{8}, mostCost, true)
	wantPlan(t, "22 by one more", 0, 22, 233, short, []int{8, 1}, mostCost+11, true)
	wantPlan(t, "24 by one of the two ways", 0, 24, 231, short, []int{0, 1, 8, 3}, mostCost+34, true)
	// the cheapest way to what is needed leaves no room for the last one
	tight := []impl.Action{act(1, 0, 0, 64, 0), act(500, 0, 64, 64+16, 0), act(1, 64+20, 128, 128, 0)}
	for _, a := range counting()[:5] {
		a.Need |= 64
		a.Cost = 1
		tight = append(tight, a)
	}
	wantPlan(t, "no room for one more", 0, 128+64+20, 43, tight, []int{1, 3, 4, 3, 5, 2}, 505, true)
	var room []int
	for _, bit := range plan[1:20] {
		room = append(room, 3+bit)
	}
	wantPlan(t, "just room for it", 64+1, 128+64+20, 43, tight, append(room, 2), 20, true)
	wantPlan(t, "just no room for it", 64, 128+64+20, 43, tight, nil, 0, false)
}

func TestCheapestPlanCosts(t *testing.T) {
	// costs of 1 and of 1000, as often as may be
	for _, cost := range []int{1, mostCost} {
		count := counting()
		for i := range count {
			count[i].Cost = cost
		}
		got, sum, ok := impl.CheapestPlan(0, 20, 235, count)
		if len(got) != 20 || sum != 20*cost || !ok {
			t.Error(cost, got, sum, ok)
		}
	}
	// a thousand times the least is dearer by one than the dearest and once less
	wantPlan(t, "dear", 0, 1, 0, []impl.Action{act(mostCost, 0, 0, 1, 0), act(mostCost-1, 0, 0, 2, 0), act(1, 2, 0, 1, 0)}, []int{0}, mostCost, true)
	wantPlan(t, "less dear", 0, 1, 0, []impl.Action{act(mostCost, 0, 0, 1, 0), act(mostCost-2, 0, 0, 2, 0), act(1, 2, 0, 1, 0)}, []int{1, 2}, mostCost-1, true)
}

// Actions may be as many as MaxActions; one more is refused, whether it is needed or not.
func TestPlansOfManyActions(t *testing.T) {
	var actions []impl.Action
	for i := range mostActions {
		actions = append(actions, act(20-i, 0, 0, 1<<(i%8), 0))
	}
	wantPlan(t, "as many as may be", 0, 128, 0, actions, []int{7}, 13, true)
	wantPlan(t, "the last one", 0, 8, 0, actions, []int{11}, 9, true)
	wantPlan(t, "all facts", 0, 255, 0, actions, []int{4, 5, 6, 7, 8, 9, 10, 11}, 16+15+14+13+12+11+10+9, true)
	wantCost(t, "as many as may be", 0, []int{11, 0, 11}, actions, 38, 9, true)
	more := append(actions, act(1, 0, 0, 1, 0))
	for _, facts := range []int{0, 255} {
		wantPlan(t, "one more", facts, 1, 0, more, nil, 0, false)
		wantPlan(t, "one more, nothing wanted", facts, 0, 0, more, nil, 0, false)
		wantCost(t, "one more", facts, []int{11}, more, 0, 0, false)
		wantCost(t, "one more, no plan", facts, nil, more, 0, 0, false)
	}
}

func TestPlansWrong(t *testing.T) {
	fine := []impl.Action{act(2, 0, 0, 1, 0), act(3, 1, 0, 2, 1)}
	for _, n := range factNumbers() {
		if n >= 0 && n <= 255 {
			continue
		}
		wantPlan(t, "facts", n, 2, 0, fine, nil, 0, false)
		wantPlan(t, "facts, nothing wanted", n, 0, 0, fine, nil, 0, false)
		wantPlan(t, "want", 0, n, 0, fine, nil, 0, false)
		wantPlan(t, "want, all is there", 255, n, 0, nil, nil, 0, false)
		wantPlan(t, "lack", 0, 2, n, fine, nil, 0, false)
		wantPlan(t, "lack, nothing is there", 0, 0, n, nil, nil, 0, false)
		wantCost(t, "facts", n, []int{0, 1}, fine, 0, 0, false)
		wantCost(t, "facts, no plan", n, nil, fine, 0, 0, false)
	}
	// an action that is not good spoils all, wherever it stands and whether it is needed or not
	for what, a := range badActions() {
		for at := range 3 {
			actions := slices.Insert(slices.Clone(fine), at, a)
			first := 0
			if at == 0 {
				first = 1
			}
			wantPlan(t, what, 0, 1, 0, actions, nil, 0, false)
			wantPlan(t, what+", nothing wanted", 0, 0, 0, actions, nil, 0, false)
			wantCost(t, what, 0, []int{first}, actions, 0, 0, false)
			wantCost(t, what+", no plan", 0, nil, actions, 0, 0, false)
		}
	}
}

func TestPlanCostTold(t *testing.T) {
	chop := []impl.Action{act(2, 0, 0, 1, 0), act(3, 1, 0, 2, 1), act(mostCost, 255, 0, 0, 255), act(1, 1, 1, 4, 0)}
	wantCost(t, "no plan", 5, nil, chop, 0, 5, true)
	wantCost(t, "no plan, no action", 255, nil, nil, 0, 255, true)
	wantCost(t, "no plan, nothing there", 0, nil, nil, 0, 0, true)
	wantCost(t, "ordinary", 0, []int{0, 1}, chop, 5, 2, true)
	wantCost(t, "with what is there", 68, []int{0, 1, 0}, chop, 7, 71, true)
	wantCost(t, "one twice", 0, []int{0, 0}, chop, 4, 1, true)
	wantCost(t, "all gone", 255, []int{2}, chop, mostCost, 0, true)
	wantCost(t, "all gone and more", 255, []int{2, 0}, chop, mostCost+2, 1, true)
	wantCost(t, "the first may not be done", 0, []int{1}, chop, 0, 0, false)
	wantCost(t, "the first may not be done, the others may", 4, []int{1, 0, 0}, chop, 0, 0, false)
	wantCost(t, "the second may not be done", 0, []int{0, 2}, chop, 0, 0, false)
	wantCost(t, "no more at the second time", 1, []int{1, 1}, chop, 0, 0, false)
	wantCost(t, "the last may not be done", 0, []int{0, 1, 0, 1, 1}, chop, 0, 0, false)
	wantCost(t, "needs and lacks one fact", 1, []int{3}, chop, 0, 0, false)
	wantCost(t, "needs and lacks one fact, not there", 0, []int{3}, chop, 0, 0, false)
	for _, n := range []int{-1, 4, 5, math.MinInt, math.MaxInt, 1 << 32, -4} {
		wantCost(t, "a number of no action", 0, []int{n}, chop, 0, 0, false)
		wantCost(t, "behind others", 0, []int{0, 1, n}, chop, 0, 0, false)
		wantCost(t, "ahead of others", 0, []int{n, 0, 1}, chop, 0, 0, false)
	}
	wantCost(t, "a number where there is no action", 0, []int{0}, nil, 0, 0, false)
	for _, many := range []int{19, 20, 21, 22, 1000} {
		plan := make([]int, many)
		if many <= mostSteps {
			wantCost(t, "long", 0, plan, chop, 2*many, 1, true)
			wantCost(t, "long and dear", 0, plan, []impl.Action{act(mostCost, 0, 0, 0, 0)}, mostCost*many, 0, true)
		} else {
			wantCost(t, "too long", 0, plan, chop, 0, 0, false)
			wantCost(t, "too long and dear", 0, plan, []impl.Action{act(mostCost, 0, 0, 0, 0)}, 0, 0, false)
		}
	}
}

// Plans of coins against those that are found from behind; and each is what PlanCost says of it.
func TestCheapestPlanFromBehind(t *testing.T) {
	var found [2]int
	longest, several := 0, 0
	for seed := range 700 {
		actions := coinActions(seed)
		next := coinRow(seed + 5000)
		for range 2 {
			facts, want, lack := next(256), next(256), next(256)
			if next(8) > 0 {
				want = 1<<next(8) | 1<<next(8) | 1<<next(8)
				lack &= next(256) & next(256) &^ want
			}
			plan, cost, ok := slowPlan(facts, want, lack, actions)
			got, sum, done := impl.CheapestPlan(facts, want, lack, actions)
			if !slices.Equal(got, plan) || sum != cost || done != ok {
				t.Fatalf("CheapestPlan %d %d %d %v = %v %d %v, not %v %d %v", facts, want, lack, actions, got, sum, done, plan, cost, ok)
			}
			if !ok {
				found[0]++
				continue
			}
			found[1]++
			longest = max(longest, len(plan))
			if len(plan) > 1 && !slices.IsSorted(plan) {
				several++
			}
			again, end, may := impl.PlanCost(facts, got, actions)
			if again != sum || !slowMet(end, want, lack) || !may {
				t.Fatalf("PlanCost %d %v %v = %d %d %v", facts, got, actions, again, end, may)
			}
		}
	}
	if found[0] < 100 || found[1] < 100 || longest < 6 || several < 20 {
		t.Error("not found and found:", found, "the longest:", longest, "not sorted:", several)
	}
}

// Numbers that count are led far: plans near MaxPlan, with ways around that cost other sums.
func TestCheapestPlanFromBehindFar(t *testing.T) {
	var lengths [mostSteps + 1]int
	for seed := range 150 {
		next := coinRow(seed + 1)
		actions := counting()[:5]
		for i := range actions {
			actions[i].Cost = 1 + next(3)
		}
		for range 1 + next(4) {
			around := act(1+next(60), 0, 0, next(32), 0)
			around.Lose = next(32) &^ around.Gain
			around.Need = next(32) & next(32)
			actions = append(actions, around)
		}
		facts, want := next(8), 16+next(16)
		plan, cost, ok := slowPlan(facts, want, 31-want, actions)
		got, sum, done := impl.CheapestPlan(facts, want, 31-want, actions)
		if !slices.Equal(got, plan) || sum != cost || done != ok {
			t.Fatalf("CheapestPlan %d %d %v = %v %d %v, not %v %d %v", facts, want, actions, got, sum, done, plan, cost, ok)
		}
		lengths[len(plan)]++
	}
	if lengths[20]+lengths[19]+lengths[18] < 3 || lengths[5] < 3 {
		t.Error("lengths:", lengths)
	}
}

// Promise 7: no plan of at most three steps is cheaper than the cheapest, nor is one of its cost
// shorter, nor one of its cost and length ahead of it.
func TestNoShortPlanIsCheaper(t *testing.T) {
	var better [4]int
	for seed := range 120 {
		actions := coinActions(seed + 9000)
		next := coinRow(seed + 1)
		facts, want := next(256), 1<<next(8)|1<<next(8)
		lack := 1 << next(8) &^ want
		got, cost, ok := impl.CheapestPlan(facts, want, lack, actions)
		if !ok && (got != nil || cost != 0) {
			t.Fatal("no plan, but", got, cost)
		}
		look := func(plan ...int) {
			sum, end, may := slowPlanCost(facts, plan, actions)
			if !may || !slowMet(end, want, lack) {
				return
			}
			better[len(plan)]++
			ahead := sum < cost || sum == cost && (len(plan) < len(got) || len(plan) == len(got) && slices.Compare(plan, got) < 0)
			if !ok || ahead {
				t.Fatalf("CheapestPlan %d %d %d %v = %v %d %v: ahead of it is %v %d", facts, want, lack, actions, got, cost, ok, plan, sum)
			}
		}
		look()
		for i := range actions {
			look(i)
			for j := range actions {
				look(i, j)
				for k := range actions {
					look(i, j, k)
				}
			}
		}
	}
	for many, plans := range better {
		if plans == 0 {
			t.Error("no plan of", many)
		}
	}
}

func choice(bent int, score ...int) impl.Choice {
	return impl.Choice{Name: "go", Score: score, Bent: bent}
}

// slowWorth multiplies by numbers without end, rounded behind each product.
func slowWorth(c impl.Choice) (int, bool) {
	good := slowGoodName(c.Name) && len(c.Score) >= 1 && len(c.Score) <= 8 && c.Bent >= -65536 && c.Bent <= 65536
	worth := 65536
	for _, s := range c.Score {
		good = good && s >= 0 && s <= 65536
		worth = nearestCut(bigMul(worth, s), big.NewInt(65536))
	}
	return worth + c.Bent, good
}

func slowChoice(list []impl.Choice) (int, bool) {
	worths, good := []int{}, len(list) >= 1 && len(list) <= 12
	for _, c := range list {
		worth, fine := slowWorth(c)
		worths, good = append(worths, worth), good && fine
	}
	if !good {
		return 0, false
	}
	return slices.Index(worths, slices.Max(worths)), true
}

func wantChoice(t *testing.T, what string, list []impl.Choice, want int, good bool) {
	t.Helper()
	got := purely(t, what, impl.BestChoice, list)
	if got[0] != want || got[1] != good {
		t.Errorf("%s: BestChoice %v = %v, not %d %v", what, list, got, want, good)
	}
}

func TestBestChoiceTold(t *testing.T) {
	const one, half = wholeOne, wholeOne / 2
	for what, c := range map[string]struct {
		list []impl.Choice
		want int
	}{
		"one":                          {[]impl.Choice{choice(0, 5)}, 0},
		"one, worth nothing":           {[]impl.Choice{choice(0, 0)}, 0},
		"one, worth less than nothing": {[]impl.Choice{choice(-one, 0)}, 0},
		"the second":                   {[]impl.Choice{choice(0, 5), choice(0, 6)}, 1},
		"the first":                    {[]impl.Choice{choice(0, 6), choice(0, 5)}, 0},
		"the middle":                   {[]impl.Choice{choice(0, 5), choice(0, 7), choice(0, 6)}, 1},
		"alike":                        {[]impl.Choice{choice(0, 4), choice(0, 5), choice(0, 5), choice(0, 5)}, 1},
		"alike by a Bent":              {[]impl.Choice{choice(0, 5), choice(2, 3), choice(-1, 6)}, 0},
		"Bent tells":                   {[]impl.Choice{choice(0, 5), choice(3, 3), choice(-1, 6)}, 1},
		"Bent One against One":         {[]impl.Choice{choice(0, one), choice(one, 0)}, 0},
		"Bent One against One less":    {[]impl.Choice{choice(0, one-1), choice(one, 0)}, 1},
		"Bent -One":                    {[]impl.Choice{choice(-one, one), choice(0, 0), choice(0, 1)}, 2},
		"all below 0":                  {[]impl.Choice{choice(-one, 4), choice(-one, 5), choice(-3, 0), choice(-4, 0)}, 2},
		"halves of halves":             {[]impl.Choice{choice(0, half, half), choice(0, half/2+1)}, 1},
		"halves of halves alike":       {[]impl.Choice{choice(0, half, half), choice(0, half/2)}, 0},
		"halves to the greater":        {[]impl.Choice{choice(0, 2), choice(0, 5, half)}, 1},
		// (3 * 0.5 -> 2) * 0.75 -> 2, but (3 * 0.75 -> 2) * 0.5 -> 1
		"in order, ahead":       {[]impl.Choice{choice(0, 3, half+half/2, half), choice(0, 3, half, half+half/2)}, 1},
		"in order, behind":      {[]impl.Choice{choice(0, 3, half, half+half/2), choice(0, 3, half+half/2, half)}, 0},
		"One changes nothing":   {[]impl.Choice{choice(0, one, 9, one, one, one, one, one, one), choice(0, 9)}, 0},
		"0 takes all":           {[]impl.Choice{choice(0, one, one, one, one, one, one, one, 0), choice(0, 1)}, 1},
		"8 of Score":            {[]impl.Choice{choice(0, one-1), choice(0, one, one, one, one, one, one, one, one)}, 1},
		"8 of nearly One":       {[]impl.Choice{choice(0, one-9), choice(0, one-1, one-1, one-1, one-1, one-1, one-1, one-1, one-1)}, 1},
		"the last of all":       {append(slices.Repeat([]impl.Choice{choice(0, 5)}, 11), choice(1, 5)), 11},
		"the first of all":      {slices.Repeat([]impl.Choice{choice(0, 5)}, 12), 0},
		"names alike or unlike": {[]impl.Choice{{Name: "a", Score: []int{1}}, {Name: longName, Score: []int{2}}, {Name: "_", Score: []int{2}}}, 1},
	} {
		wantChoice(t, what, c.list, c.want, true)
	}
}

func TestBestChoiceWrong(t *testing.T) {
	wantChoice(t, "none", nil, 0, false)
	wantChoice(t, "one too many", slices.Repeat([]impl.Choice{choice(0, 5)}, 13), 0, false)
	wantChoice(t, "far too many", slices.Repeat([]impl.Choice{choice(0, 5)}, 500), 0, false)
	bad := map[string]impl.Choice{
		"nothing":            {},
		"no Score":           choice(0),
		"no Score but Bent":  choice(wholeOne),
		"9 of Score":         choice(0, slices.Repeat([]int{wholeOne}, 9)...),
		"9 of Score, none":   choice(0, slices.Repeat([]int{0}, 9)...),
		"Score below 0":      choice(0, -1),
		"Score beyond":       choice(0, wholeOne+1),
		"Score below 0 last": choice(0, 7, 7, 7, 7, 7, 7, 7, -1),
		"Score beyond last":  choice(0, 7, 7, 7, 7, 7, 7, 7, wholeOne+1),
		"Score beyond at 0":  choice(0, 0, wholeOne+1),
		"Score beyond first": choice(0, wholeOne+1, 0),
		"Score far below":    choice(0, math.MinInt),
		"Score far beyond":   choice(0, math.MaxInt),
		"Bent below -One":    choice(-wholeOne-1, 5),
		"Bent beyond One":    choice(wholeOne+1, 5),
		"Bent far below":     choice(math.MinInt, 5),
		"Bent far beyond":    choice(math.MaxInt, 5),
	}
	for _, name := range badNames() {
		bad[fmt.Sprintf("the name %q", name)] = impl.Choice{Name: name, Score: []int{1}}
	}
	for what, c := range bad {
		wantChoice(t, what, []impl.Choice{c}, 0, false)
		wantChoice(t, what+" ahead", []impl.Choice{c, choice(0, 5), choice(0, 6)}, 0, false)
		wantChoice(t, what+" between", []impl.Choice{choice(0, 5), c, choice(0, 6)}, 0, false)
		wantChoice(t, what+" behind", []impl.Choice{choice(0, 5), choice(0, 6), c}, 0, false)
	}
}

func coinChoices(seed int) []impl.Choice {
	next := coinRow(seed + 1)
	var out []impl.Choice
	for range 1 + next(mostActions) {
		c := choice(0)
		for range 1 + next(8) {
			c.Score = append(c.Score, wholeOne-next(1<<next(15)))
		}
		if next(3) == 0 {
			c.Score[0] = next(9)
		}
		if next(2) == 0 {
			c.Bent = next(1<<next(12)) - next(1<<next(12))
		}
		out = append(out, c)
	}
	return out
}

func TestBestChoiceExactly(t *testing.T) {
	var which [mostActions]int
	for seed := range 3000 {
		list := coinChoices(seed)
		want, good := slowChoice(list)
		if got, ok := impl.BestChoice(list); got != want || ok != good || !ok {
			t.Fatalf("BestChoice %v = %d %v, not %d %v", list, got, ok, want, good)
		}
		which[want]++
	}
	if slices.Min(which[:8]) == 0 {
		t.Error("the best were", which)
	}
}

func slowSteer(x int, y int, toX int, toY int, most int) (int, int) {
	good := most >= 0
	for _, n := range []int{x, y, toX, toY, most} {
		good = good && n >= -impl.MaxFixed && n <= impl.MaxFixed
	}
	if !good || toX-x > impl.MaxFixed || x-toX > impl.MaxFixed || toY-y > impl.MaxFixed || y-toY > impl.MaxFixed {
		return 0, 0
	}
	wayX, wayY := toX-x, toY-y
	squares := new(big.Int).Add(bigMul(wayX, wayX), bigMul(wayY, wayY))
	length := int(squares.Sqrt(squares).Int64())
	length = min(length, impl.MaxFixed)
	if length <= most {
		return wayX, wayY
	}
	cut := func(part int) int {
		// Quo of math/big goes towards 0.
		return int(new(big.Int).Quo(bigMul(part, most), big.NewInt(int64(length))).Int64())
	}
	return cut(wayX), cut(wayY)
}

func wantSteer(t *testing.T, at [5]int, wantX int, wantY int) {
	t.Helper()
	got := purely(t, "Steer", impl.Steer, at[0], at[1], at[2], at[3], at[4])
	if got[0] != wantX || got[1] != wantY {
		t.Errorf("Steer %v = %v, not %d %d", at, got, wantX, wantY)
	}
}

func TestSteerTold(t *testing.T) {
	const far = impl.MaxFixed
	for _, c := range []struct {
		at   [5]int
		x, y int
	}{
		{[5]int{0, 0, 3, 4, 5}, 3, 4},
		{[5]int{0, 0, 30, 40, 5}, 3, 4},
		{[5]int{0, 0, 30, 40, 50}, 30, 40},
		{[5]int{0, 0, 30, 40, 51}, 30, 40},
		{[5]int{0, 0, 30, 40, 49}, 29, 39},
		{[5]int{30, 40, 0, 0, 49}, -29, -39},
		{[5]int{100, -7, 70, 33, 49}, -29, 39},
		{[5]int{0, 0, 30, 40, 0}, 0, 0},
		{[5]int{5, 6, 5, 6, 0}, 0, 0},
		{[5]int{5, 6, 5, 6, 9}, 0, 0},
		{[5]int{5, 6, 6, 6, 0}, 0, 0},
		{[5]int{5, 6, 6, 6, 1}, 1, 0},
		// the length is rounded down: 1 for 1, 1
		{[5]int{0, 0, 1, 1, 1}, 1, 1},
		{[5]int{0, 0, 2, 2, 1}, 1, 1},
		{[5]int{0, 0, 2, -2, 1}, 1, -1},
		{[5]int{0, 0, 1, 3, 2}, 0, 2},
		{[5]int{0, 0, -1, -3, 2}, 0, -2},
		{[5]int{0, 0, -5, 0, 3}, -3, 0},
		// as far as may be
		{[5]int{-far, 0, 0, 0, far}, far, 0},
		{[5]int{far, 0, 0, 0, far}, -far, 0},
		{[5]int{-far, 0, 0, 0, far - 1}, far - 1, 0},
		{[5]int{far, far, far, far, 0}, 0, 0},
		{[5]int{-far, -far, 0, 0, far}, far, far},
		{[5]int{-far, -far, 0, 0, far - 1}, far - 1, far - 1},
		{[5]int{far, -far, 0, 0, far - 1}, -far + 1, far - 1},
		{[5]int{far / 2, 0, -far / 2, 0, far / 2}, -far / 2, 0},
		{[5]int{0, 0, far, far, 1}, 1, 1},
		{[5]int{0, 0, far, 1, far - 1}, far - 1, 0},
		// parts of the way that are no fixed numbers
		{[5]int{-far, 0, 1, 0, far}, 0, 0},
		{[5]int{1, 0, -far, 0, far}, 0, 0},
		{[5]int{0, -far, 0, 1, far}, 0, 0},
		{[5]int{0, 1, 0, -far, far}, 0, 0},
		{[5]int{-far, 0, far, 0, 5}, 0, 0},
		{[5]int{0, far, 0, -far, 5}, 0, 0},
		{[5]int{-1, 5, far, 6, 5}, 0, 0},
		{[5]int{5, -1, 6, far, 5}, 0, 0},
		// places and lengths that are none
		{[5]int{far + 1, 0, far, 0, 5}, 0, 0},
		{[5]int{-far - 1, 0, -far, 0, 5}, 0, 0},
		{[5]int{0, far + 1, 0, far, 5}, 0, 0},
		{[5]int{0, -far - 1, 0, -far, 5}, 0, 0},
		{[5]int{far, 0, far + 1, 0, 5}, 0, 0},
		{[5]int{-far, 0, -far - 1, 0, 5}, 0, 0},
		{[5]int{0, far, 0, far + 1, 5}, 0, 0},
		{[5]int{0, -far, 0, -far - 1, 5}, 0, 0},
		{[5]int{0, 0, 3, 4, -1}, 0, 0},
		{[5]int{0, 0, 30, 40, -5}, 0, 0},
		{[5]int{0, 0, 3, 4, far + 1}, 0, 0},
		{[5]int{0, 0, 30, 40, -far}, 0, 0},
		{[5]int{0, 0, 30, 40, math.MinInt}, 0, 0},
		{[5]int{0, 0, 30, 40, math.MaxInt}, 0, 0},
		{[5]int{math.MinInt, 0, math.MinInt, 0, 5}, 0, 0},
		{[5]int{math.MaxInt, 0, math.MinInt, 0, 5}, 0, 0},
		{[5]int{0, math.MinInt, 1, math.MaxInt, 5}, 0, 0},
	} {
		wantSteer(t, c.at, c.x, c.y)
	}
}

func TestSteerExactly(t *testing.T) {
	look := func(at [5]int) {
		t.Helper()
		x, y := impl.Steer(at[0], at[1], at[2], at[3], at[4])
		if wantX, wantY := slowSteer(at[0], at[1], at[2], at[3], at[4]); x != wantX || y != wantY {
			t.Fatalf("Steer %v = %d %d, not %d %d", at, x, y, wantX, wantY)
		}
	}
	spread := append(fixedSpread(), notFixed()...)
	for i, x := range spread {
		for j, y := range spread {
			for k, most := range spread {
				look([5]int{0, 0, x, y, most})
				look([5]int{spread[k], spread[j], x, y, spread[(i+j+k)%len(spread)]})
			}
		}
	}
	row := coinFixed(7, 40000)
	for i := 0; i+5 <= len(row); i += 5 {
		look([5]int{row[i] / 2, row[i+1] / 2, row[i+2] / 2, row[i+3] / 2, max(row[i+4], -row[i+4])})
		// just the length, one less and one more
		length := impl.LengthOf(row[i], row[i+1])
		for most := max(0, length-1); most <= min(length+1, impl.MaxFixed); most++ {
			look([5]int{0, 0, row[i], row[i+1], most})
		}
	}
}

// Promise 29: facts, actions, plans and choices of any kind; what is answered is what the document
// says of them.
func TestMindsAnswerAtAnyArguments(t *testing.T) {
	names := append(badNames(), "a", longName)
	var good [2]int
	for seed := range 250 {
		next := coinRow(seed + 1)
		number := func() int {
			numbers := factNumbers()
			return numbers[next(len(numbers))]
		}
		actions := coinActions(seed + 70)
		if next(20) == 0 {
			actions = append(actions, slices.Repeat(actions, 4)...)
		}
		for range next(2) * next(2) {
			at := &actions[next(len(actions))]
			switch next(6) {
			case 0:
				at.Name = names[next(len(names))]
			case 1:
				at.Cost = number()
			case 2:
				at.Need = number()
			case 3:
				at.Lack = number()
			case 4:
				at.Gain = number()
			case 5:
				at.Lose = number()
			}
		}
		facts, want := next(256), 1<<next(8)|1<<next(8)
		lack := 1 << next(8) &^ want
		switch next(8) {
		case 0:
			facts = number()
		case 1:
			want = number()
		case 2:
			lack = number()
		}
		for _, a := range actions {
			if got := purely(t, "GoodAction", impl.GoodAction, a); got[0] != slowGoodAction(a) {
				t.Fatalf("GoodAction %v = %v", a, got)
			}
			if got := purely(t, "MayDo", impl.MayDo, facts, a); got[0] != slowMayDo(facts, a) {
				t.Fatalf("MayDo %d %v = %v", facts, a, got)
			}
			if got := purely(t, "AfterDoing", impl.AfterDoing, facts, a); got[0] != slowAfter(facts, a) {
				t.Fatalf("AfterDoing %d %v = %v", facts, a, got)
			}
		}
		plan, cost, ok := slowPlan(facts, want, lack, actions)
		wantPlan(t, "any", facts, want, lack, actions, plan, cost, ok)
		if next(3) == 0 {
			plan = append(plan, next(8), number())
		}
		cost, end, may := slowPlanCost(facts, plan, actions)
		wantCost(t, "any", facts, plan, actions, cost, end, may)
		if ok {
			good[1]++
		} else {
			good[0]++
		}
		list := coinChoices(seed)
		if next(2) == 0 {
			at := &list[next(len(list))]
			at.Name = names[next(len(names))]
			at.Bent = []int{0, number(), -wholeOne, wholeOne}[next(4)]
			at.Score[next(len(at.Score))] = number()
		}
		which, fine := slowChoice(list)
		wantChoice(t, "any", list, which, fine)
	}
	if good[0] < 20 || good[1] < 20 {
		t.Error("no plan and plan:", good)
	}
}

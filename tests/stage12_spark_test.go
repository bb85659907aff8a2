package tests

import (
	"fmt"
	"math"
	"math/big"
	"slices"
	"testing"

	"loop.example/g00064/impl"
)

const mostSparks = 60
const mostBorn = 20
const mostCloudSteps = 200
const farThrow = 1000000
const mostWeight = 1000000
const lastSeed = 2147483647
const farFixed = 1099511627776

// farNumbers holds numbers that no field of this chapter may have.
func farNumbers() []int {
	return []int{farFixed + 1, -farFixed - 1, 1 << 52, math.MaxInt, math.MinInt, math.MaxInt - 1, math.MinInt + 1}
}

// notSeeds holds numbers that are no seeds.
func notSeeds() []int {
	return []int{-1, lastSeed + 1, -lastSeed, 1 << 32, 1<<32 + 1, math.MinInt, math.MaxInt}
}

func spark(x int, y int, dx int, dy int, left int) impl.Spark {
	return impl.Spark{X: x, Y: y, DX: dx, DY: dy, Left: left}
}

func cloud(seed int, step int, sparks ...impl.Spark) impl.Cloud {
	return impl.Cloud{Seed: seed, Step: step, Sparks: sparks}
}

// resting gives so many sparks that stay where they are, each at a place of its own.
func resting(many int, left int) []impl.Spark {
	var out []impl.Spark
	for i := range many {
		out = append(out, spark(i, -i, 0, 0, left))
	}
	return out
}

// plainEmitter gives an emitter that lets one spark out at each step.
func plainEmitter() impl.Emitter {
	return impl.Emitter{X: 3, Y: -4, Every: 1, Burst: 1, Life: 5, Speed: 100, Fall: 2}
}

// quiet gives an emitter that lets none out.
func quiet(fall int) impl.Emitter {
	return impl.Emitter{Every: 1, Life: 1, Fall: fall}
}

// emitterField is a field of an emitter and its limits.
type emitterField struct {
	what  string
	at    func(*impl.Emitter) *int
	least int
	most  int
}

func emitterFields() []emitterField {
	return []emitterField{
		{"X", func(e *impl.Emitter) *int { return &e.X }, -farThrow, farThrow},
		{"Y", func(e *impl.Emitter) *int { return &e.Y }, -farThrow, farThrow},
		{"Fall", func(e *impl.Emitter) *int { return &e.Fall }, -farThrow, farThrow},
		{"Every", func(e *impl.Emitter) *int { return &e.Every }, 1, mostCloudSteps},
		{"Burst", func(e *impl.Emitter) *int { return &e.Burst }, 0, mostBorn},
		{"Life", func(e *impl.Emitter) *int { return &e.Life }, 1, mostCloudSteps},
		{"Speed", func(e *impl.Emitter) *int { return &e.Speed }, 0, farThrow},
	}
}

// goodEmitters holds emitters at each limit that the document names.
func goodEmitters() map[string]impl.Emitter {
	out := map[string]impl.Emitter{
		"a plain one": plainEmitter(),
		"the least":   {X: -farThrow, Y: -farThrow, Every: 1, Life: 1, Fall: -farThrow},
		"the most":    {X: farThrow, Y: farThrow, Every: mostCloudSteps, Burst: mostBorn, Life: mostCloudSteps, Speed: farThrow, Fall: farThrow},
	}
	for _, f := range emitterFields() {
		for _, n := range []int{f.least, f.least + 1, f.most - 1, f.most} {
			e := plainEmitter()
			*f.at(&e) = n
			out[fmt.Sprint(f.what, " ", n)] = e
		}
	}
	return out
}

// badEmitters holds emitters that are not good, in each way that the document names.
func badEmitters() map[string]impl.Emitter {
	out := map[string]impl.Emitter{"nothing": {}}
	for _, f := range emitterFields() {
		for _, n := range append(farNumbers(), f.least-1, f.most+1, -f.most-1) {
			e := plainEmitter()
			*f.at(&e) = n
			out[fmt.Sprint(f.what, " ", n)] = e
		}
	}
	return out
}

// sparkField is a field of a spark and its limits.
type sparkField struct {
	what  string
	at    func(*impl.Spark) *int
	least int
	most  int
}

func sparkFields() []sparkField {
	return []sparkField{
		{"X", func(s *impl.Spark) *int { return &s.X }, -farFixed, farFixed},
		{"Y", func(s *impl.Spark) *int { return &s.Y }, -farFixed, farFixed},
		{"DX", func(s *impl.Spark) *int { return &s.DX }, -farFixed, farFixed},
		{"DY", func(s *impl.Spark) *int { return &s.DY }, -farFixed, farFixed},
		{"Left", func(s *impl.Spark) *int { return &s.Left }, 1, mostCloudSteps},
	}
}

// besideOthers gives clouds in which a spark is alone, the first, in the middle and the last.
func besideOthers(s impl.Spark) []impl.Cloud {
	a, b := spark(1, 2, 3, 4, 5), spark(-6, 7, -8, 9, 10)
	return []impl.Cloud{cloud(1, 1, s), cloud(1, 1, s, a, b), cloud(1, 1, a, s, b), cloud(1, 1, a, b, s)}
}

// goodClouds holds clouds at each limit that the document names.
func goodClouds() map[string]impl.Cloud {
	out := map[string]impl.Cloud{
		"nothing yet":       {},
		"the least seed":    cloud(0, 3),
		"the greatest seed": cloud(lastSeed, 3),
		"ahead of the end":  cloud(5, mostCloudSteps-1, resting(3, 2)...),
		"at the end":        cloud(5, mostCloudSteps, resting(3, 2)...),
		"full":              cloud(5, 7, resting(mostSparks, 9)...),
		"nearly full":       cloud(5, 7, resting(mostSparks-1, 9)...),
		"all go":            cloud(5, 7, resting(mostSparks, 1)...),
		"two alike":         cloud(5, 7, spark(1, 2, 3, 4, 5), spark(1, 2, 3, 4, 5)),
	}
	for _, f := range sparkFields() {
		for _, n := range []int{f.least, f.least + 1, f.most - 1, f.most} {
			s := spark(1, -2, 0, 0, 3)
			*f.at(&s) = n
			for i, c := range besideOthers(s) {
				out[fmt.Sprint(f.what, " ", n, ", ", i)] = c
			}
		}
	}
	return out
}

// badClouds holds clouds that are not good, in each way that the document names.
func badClouds() map[string]impl.Cloud {
	out := map[string]impl.Cloud{
		"one too many":           cloud(5, 7, resting(mostSparks+1, 9)...),
		"one too many, all go":   cloud(5, 7, resting(mostSparks+1, 1)...),
		"one too many, one goes": cloud(5, 7, append(resting(mostSparks, 9), spark(0, 0, 0, 0, 1))...),
		"far too many":           cloud(5, 7, resting(4000, 9)...),
	}
	for _, seed := range notSeeds() {
		out[fmt.Sprint("seed ", seed)] = cloud(seed, 3)
		out[fmt.Sprint("seed and sparks ", seed)] = cloud(seed, 3, resting(3, 2)...)
	}
	for _, step := range []int{-1, mostCloudSteps + 1, -mostCloudSteps, 1 << 32, math.MinInt, math.MaxInt} {
		out[fmt.Sprint("step ", step)] = cloud(1, step)
		out[fmt.Sprint("step and sparks ", step)] = cloud(1, step, resting(3, 2)...)
	}
	for _, f := range sparkFields() {
		for _, n := range append(farNumbers(), f.least-1, f.most+1) {
			s := spark(1, -2, 0, 0, 1)
			*f.at(&s) = n
			for i, c := range besideOthers(s) {
				out[fmt.Sprint(f.what, " ", n, ", ", i)] = c
			}
		}
	}
	return out
}

func slowGoodEmitter(e impl.Emitter) bool {
	return !slices.ContainsFunc(emitterFields(), func(f emitterField) bool {
		return *f.at(&e) < f.least || *f.at(&e) > f.most
	})
}

func slowGoodSeed(seed int) bool { return uint64(seed)>>31 == 0 }

func slowGoodCloud(c impl.Cloud) bool {
	if !slowGoodSeed(c.Seed) || c.Step < 0 || c.Step > mostCloudSteps || len(c.Sparks) > mostSparks {
		return false
	}
	return !slices.ContainsFunc(c.Sparks, func(s impl.Spark) bool {
		return slices.ContainsFunc(sparkFields(), func(f sparkField) bool {
			return *f.at(&s) < f.least || *f.at(&s) > f.most
		})
	})
}

// slowCoin takes a coin by numbers that wrap round by themselves.
func slowCoin(seed int) (int, int) {
	next := int((uint32(seed)*1103515245 + 12345) & lastSeed)
	return next, next >> 16
}

// seedBefore gives the seed whose next one is this.
func seedBefore(next int) int {
	all := big.NewInt(lastSeed + 1)
	seed := new(big.Int).ModInverse(big.NewInt(1103515245), all)
	seed.Mul(seed, big.NewInt(int64(next-12345)))
	return int(seed.Mod(seed, all).Int64())
}

// seedFor gives a seed whose first two coins are these.
func seedFor(t *testing.T, first int, second int) int {
	t.Helper()
	for rest := range 65536 {
		next := first<<16 + rest
		if _, coin := slowCoin(next); coin == second {
			return seedBefore(next)
		}
	}
	t.Fatal("no seed has the coins", first, second)
	return 0
}

// trail is a spark as it was when a step was over.
type trail struct {
	impl.Spark
	step int
}

// later gives where the spark is at a later step, by all steps at once, and whether it is there.
func (r trail) later(step int, fall int) (impl.Spark, bool) {
	n := step - r.step
	y := r.Y + n*r.DY - fall*(n*(n-1)/2)
	return spark(r.X+n*r.DX, y, r.DX, r.DY-n*fall, r.Left-n), r.Left > n
}

// sparksOf gives those of the trails that are there at a step.
func sparksOf(trails []trail, step int, fall int) []impl.Spark {
	var out []impl.Spark
	for _, r := range trails {
		if s, there := r.later(step, fall); there {
			out = append(out, s)
		}
	}
	return out
}

// slowBirth gives the spark of a seed, and the seed behind it.
func slowBirth(e impl.Emitter, seed int) (impl.Spark, int) {
	seed, first := slowCoin(seed)
	seed, second := slowCoin(seed)
	angle := first % 4096
	speed := int(new(big.Int).Div(bigMul(e.Speed, second), big.NewInt(32768)).Int64())
	dx := nearestCut(bigMul(speed, sinTold((angle+1024)%4096)), big.NewInt(wholeOne))
	dy := nearestCut(bigMul(speed, sinTold(angle)), big.NewInt(wholeOne))
	return spark(e.X, e.Y, dx, dy, e.Life), seed
}

// slowRunCloud follows the trail of each spark from where it was first.
func slowRunCloud(e impl.Emitter, c impl.Cloud, steps int) (impl.Cloud, bool) {
	if !slowGoodEmitter(e) || !slowGoodCloud(c) || steps < 0 || steps > mostCloudSteps {
		return impl.Cloud{}, false
	}
	var trails []trail
	for _, s := range c.Sparks {
		trails = append(trails, trail{s, c.Step})
	}
	out := c
	for now := c.Step + 1; now <= c.Step+steps; now++ {
		room := mostSparks - len(sparksOf(trails, now, e.Fall))
		if (now-1)%e.Every == 0 {
			for range min(room, e.Burst) {
				var born impl.Spark
				born, out.Seed = slowBirth(e, out.Seed)
				trails = append(trails, trail{born, now})
			}
		}
		out.Step, out.Sparks = now, sparksOf(trails, now, e.Fall)
		if !slowGoodCloud(out) {
			return impl.Cloud{}, false
		}
	}
	return out, true
}

// slowSparksAt counts the bursts that are not over yet.
func slowSparksAt(e impl.Emitter, seed int, step int) (int, bool) {
	if !slowGoodEmitter(e) || !slowGoodSeed(seed) || step < 0 || step > mostCloudSteps {
		return 0, false
	}
	born := map[int]int{}
	living := func(at int) int {
		many := 0
		for from, burst := range born {
			if at-from < e.Life {
				many += burst
			}
		}
		return many
	}
	for at := 0; at < step; at += e.Every {
		born[at] = min(e.Burst, mostSparks-living(at))
	}
	return living(step - 1), true
}

// slowPick asks without a quotient: a whole number is above one cut down just if it is above the whole of it.
func slowPick(weights []int, seed int) (int, int, bool) {
	if len(weights) > mostSparks || !slowGoodSeed(seed) {
		return 0, 0, false
	}
	sums := []int{0}
	for i, w := range weights {
		if w < 0 || w > mostWeight {
			return 0, 0, false
		}
		sums = append(sums, sums[i]+w)
	}
	next, coin := slowCoin(seed)
	for i, upTo := range sums[1:] {
		if upTo*32768 > coin*sums[len(weights)] {
			return i, next, true
		}
	}
	return 0, 0, false
}

func slowShuffle(many int, seed int) ([]int, int, bool) {
	if many < 0 || many > mostSparks || !slowGoodSeed(seed) {
		return nil, 0, false
	}
	// The last place takes one out, and the last number comes where that was.
	rest, out := counted(many), make([]int, many)
	for i := many - 1; i >= 0; i-- {
		at := 0
		if i > 0 {
			seed, at = slowCoin(seed)
			at %= i + 1
		}
		out[i], rest[at] = rest[at], rest[i]
		rest = rest[:i]
	}
	return out, seed, true
}

func wantStepCloud(t *testing.T, what string, e impl.Emitter, c impl.Cloud, want impl.Cloud, good bool) {
	t.Helper()
	got := purely(t, "StepCloud", impl.StepCloud, e, c)
	if !alike(got[0], want) || got[1] != good {
		t.Errorf("%s: StepCloud %v, %v = %v, want %v, %v", what, e, c, got, want, good)
	}
}

func wantRunCloud(t *testing.T, what string, e impl.Emitter, c impl.Cloud, steps int, want impl.Cloud, good bool) {
	t.Helper()
	got := purely(t, "RunCloud", impl.RunCloud, e, c, steps)
	if !alike(got[0], want) || got[1] != good {
		t.Errorf("%s: RunCloud %v, %v, %d = %v, want %v, %v", what, e, c, steps, got, want, good)
	}
}

func wantSparksAt(t *testing.T, what string, e impl.Emitter, seed int, step int, want int, good bool) {
	t.Helper()
	if got := purely(t, "SparksAt", impl.SparksAt, e, seed, step); got[0] != want || got[1] != good {
		t.Errorf("%s: SparksAt %v, %d, %d = %v, want %d, %v", what, e, seed, step, got, want, good)
	}
}

func wantPick(t *testing.T, what string, weights []int, seed int, want int, next int, good bool) {
	t.Helper()
	got := purely(t, "PickByWeight", impl.PickByWeight, weights, seed)
	if got[0] != want || got[1] != next || got[2] != good {
		t.Errorf("%s: PickByWeight %v, %d = %v, want %d, %d, %v", what, weights, seed, got, want, next, good)
	}
}

func wantShuffle(t *testing.T, what string, many int, seed int, want []int, then int, good bool) {
	t.Helper()
	got := purely(t, "ShuffleBy", impl.ShuffleBy, many, seed)
	if !alike(got[0], want) || got[1] != then || got[2] != good {
		t.Errorf("%s: ShuffleBy %d, %d = %v, want %v, %d, %v", what, many, seed, got, want, then, good)
	}
}

func TestSparkConstants(t *testing.T) {
	got := [4]int{impl.MaxSparks, impl.MaxBorn, impl.MaxSteps, impl.MaxFixed}
	if got != [4]int{mostSparks, mostBorn, mostCloudSteps, farFixed} {
		t.Error(got)
	}
}

func TestGoodEmitter(t *testing.T) {
	for what, e := range goodEmitters() {
		if !slowGoodEmitter(e) || purely(t, what, impl.GoodEmitter, e)[0] != true {
			t.Error(what, e, "is not good")
		}
	}
	for what, e := range badEmitters() {
		if slowGoodEmitter(e) || purely(t, what, impl.GoodEmitter, e)[0] != false {
			t.Error(what, e, "is good")
		}
	}
}

func TestGoodCloud(t *testing.T) {
	for what, c := range goodClouds() {
		if !slowGoodCloud(c) || purely(t, what, impl.GoodCloud, c)[0] != true {
			t.Error(what, c, "is not good")
		}
	}
	for what, c := range badClouds() {
		if slowGoodCloud(c) || purely(t, what, impl.GoodCloud, c)[0] != false {
			t.Error(what, c, "is good")
		}
	}
}

// A cloud told step by step: bursts at each second step, sparks that live for three.
func TestCloudStepByStep(t *testing.T) {
	e := impl.Emitter{X: 10, Y: -20, Every: 2, Burst: 2, Life: 3, Speed: 1000, Fall: 7}
	told := []impl.Cloud{
		cloud(1, 0),
		cloud(1147902781, 1, spark(10, -20, 134, 112, 3), spark(10, -20, -524, 103, 3)),
		cloud(1147902781, 2, spark(144, 92, 134, 105, 2), spark(-514, 83, -524, 96, 2)),
		cloud(486256185, 3, spark(278, 197, 134, 98, 1), spark(-1038, 179, -524, 89, 1), spark(10, -20, -149, -83, 3), spark(10, -20, -167, -152, 3)),
		cloud(486256185, 4, spark(-139, -103, -149, -90, 2), spark(-157, -172, -167, -159, 2)),
		cloud(836760821, 5, spark(-288, -193, -149, -97, 1), spark(-324, -331, -167, -166, 1), spark(10, -20, 120, -32, 3), spark(10, -20, -185, -342, 3)),
		cloud(836760821, 6, spark(130, -52, 120, -39, 2), spark(-175, -362, -185, -349, 2)),
	}
	for from, c := range told {
		if from > 0 {
			wantStepCloud(t, "told", e, told[from-1], c, true)
		}
		for to := from; to < len(told); to++ {
			wantRunCloud(t, "told", e, c, to-from, told[to], true)
		}
		wantSparksAt(t, "told", e, 1, from, len(c.Sparks), true)
	}
}

type stepCase struct {
	what string
	e    impl.Emitter
	from impl.Cloud
	then impl.Cloud
	good bool
}

// stayingSteps holds steps at which none is born.
func stayingSteps() []stepCase {
	a, b := spark(1, 2, 3, 4, 5), spark(10, 20, -30, -40, 2)
	laterA, laterB := spark(4, 6, 3, -1, 4), spark(-20, -20, -30, -45, 1)
	over := spark(7, 7, 7, 7, 1)
	e := quiet(5)
	return []stepCase{
		{"no spark", e, cloud(9, 4), cloud(9, 5), true},
		{"one", e, cloud(9, 4, a), cloud(9, 5, laterA), true},
		{"two, in order", e, cloud(9, 4, a, b), cloud(9, 5, laterA, laterB), true},
		{"two, the other order", e, cloud(9, 4, b, a), cloud(9, 5, laterB, laterA), true},
		{"the first goes", e, cloud(9, 4, over, a, b), cloud(9, 5, laterA, laterB), true},
		{"the middle one goes", e, cloud(9, 4, a, over, b), cloud(9, 5, laterA, laterB), true},
		{"the last goes", e, cloud(9, 4, a, b, over), cloud(9, 5, laterA, laterB), true},
		{"two side by side go", e, cloud(9, 4, a, over, over, b), cloud(9, 5, laterA, laterB), true},
		{"two apart go", e, cloud(9, 4, over, a, over, b), cloud(9, 5, laterA, laterB), true},
		{"all go", e, cloud(9, 4, over, over, over), cloud(9, 5), true},
		{"all of a full cloud go", e, cloud(9, 4, resting(mostSparks, 1)...), cloud(9, 5), true},
		{"a full cloud stays", quiet(0), cloud(9, 4, resting(mostSparks, 9)...), cloud(9, 5, resting(mostSparks, 8)...), true},
		{"it rises", quiet(-5), cloud(9, 4, a), cloud(9, 5, spark(4, 6, 3, 9, 4)), true},
		{"the longest life", e, cloud(9, 4, spark(1, 2, 3, 4, mostCloudSteps)), cloud(9, 5, spark(4, 6, 3, -1, mostCloudSteps-1)), true},
		{"the last step", e, cloud(9, mostCloudSteps-1, a), cloud(9, mostCloudSteps, laterA), true},
		{"behind the last step", e, cloud(9, mostCloudSteps, a), impl.Cloud{}, false},
		{"behind the last step, no spark", e, cloud(9, mostCloudSteps), impl.Cloud{}, false},
	}
}

// stepsAtBounds holds steps by which one number comes to its bound, or leaves it.
func stepsAtBounds() []stepCase {
	const far = farFixed
	step := func(what string, fall int, from impl.Spark, then impl.Spark) stepCase {
		return stepCase{what, quiet(fall), cloud(1, 3, from), cloud(1, 4, then), true}
	}
	out := func(what string, fall int, from impl.Spark) stepCase {
		return stepCase{what, quiet(fall), cloud(1, 3, from), impl.Cloud{}, false}
	}
	over := func(what string, fall int, from impl.Spark) stepCase {
		return stepCase{what, quiet(fall), cloud(1, 3, from), cloud(1, 4), true}
	}
	return []stepCase{
		step("X comes to the most", 0, spark(far-1, 0, 1, 0, 2), spark(far, 0, 1, 0, 1)),
		step("X comes to the least", 0, spark(1-far, 0, -1, 0, 2), spark(-far, 0, -1, 0, 1)),
		step("Y comes to the most", 0, spark(0, far-1, 0, 1, 2), spark(0, far, 0, 1, 1)),
		step("Y comes to the least", 0, spark(0, 1-far, 0, -1, 2), spark(0, -far, 0, -1, 1)),
		step("DY comes to the most", -1, spark(0, 0, 0, far-1, 2), spark(0, far-1, 0, far, 1)),
		step("DY comes to the least", 1, spark(0, 0, 0, 1-far, 2), spark(0, 1-far, 0, -far, 1)),
		step("from end to end", 0, spark(-far, far, far, -far, 2), spark(0, 0, far, -far, 1)),
		step("DY of before", -1, spark(0, far, 0, 0, 2), spark(0, far, 0, 1, 1)),
		out("X leaves above", 0, spark(far, 0, 1, 0, 2)),
		out("X leaves below", 0, spark(-far, 0, -1, 0, 2)),
		out("Y leaves above", 0, spark(0, far, 0, 1, 2)),
		out("Y leaves below", 0, spark(0, -far, 0, -1, 2)),
		out("DY leaves above", -1, spark(0, 0, 0, far, 2)),
		out("DY leaves below", 1, spark(0, 0, 0, -far, 2)),
		out("the DY of before lets Y leave", 1, spark(0, far, 0, 1, 2)),
		out("X leaves by far", 0, spark(far, 0, far, 0, 2)),
		over("X would leave", 0, spark(far, 0, 1, 0, 1)),
		over("Y would leave", 0, spark(0, -far, 0, -1, 1)),
		over("DY would leave", 1, spark(0, 0, 0, -far, 1)),
		{"one of two leaves", quiet(0), cloud(1, 3, spark(0, 0, 0, 0, 9), spark(far, 0, 1, 0, 2)), impl.Cloud{}, false},
		{"the first of two leaves", quiet(0), cloud(1, 3, spark(far, 0, 1, 0, 2), spark(0, 0, 0, 0, 9)), impl.Cloud{}, false},
	}
}

// burstSteps holds steps at which sparks are born, by coins that are told.
func burstSteps(t *testing.T) []stepCase {
	var out []stepCase
	for _, c := range []struct {
		first, second, speed, dx, dy int
	}{
		{0, 0, farThrow, 0, 0},
		{0, 32767, farThrow, 999969, 0},
		{0, 16384, farThrow, 500000, 0},
		{1024, 16384, farThrow, 0, 500000},
		{2048, 16384, farThrow, -500000, 0},
		{3072, 16384, farThrow, 0, -500000},
		{4096, 16384, farThrow, 500000, 0},
		{512, 16384, 100, 35, 35},
		{2560, 16384, 100, -35, -35},
		{32767, 0, farThrow, 0, 0},
		{32767, 32767, 32768, 32765, -50},
		{0, 32767, 0, 0, 0},
		{0, 32767, 1, 0, 0},
		{0, 16384, 1, 0, 0},
		{0, 16384, 3, 1, 0},
		{0, 16383, 4, 1, 0},
		{0, 16384, 4, 2, 0},
		{0, 10922, 3, 0, 0},
		{0, 10923, 3, 1, 0},
		{0, 1, 32767, 0, 0},
		{0, 1, 32768, 1, 0},
		{2048, 16384, 3, -1, 0},
		{4095, 16384, farThrow, 499962, -763},
		{3, 16384, farThrow, 499886, 2296},
	} {
		seed := seedFor(t, c.first, c.second)
		next, _ := slowCoin(seed)
		next, _ = slowCoin(next)
		e := impl.Emitter{X: 7, Y: 8, Every: 1, Burst: 1, Life: 9, Speed: c.speed, Fall: 5}
		then := cloud(next, 1, spark(7, 8, c.dx, c.dy, 9))
		out = append(out, stepCase{fmt.Sprint("coins ", c), e, cloud(seed, 0), then, true})
	}
	return out
}

func TestStepCloud(t *testing.T) {
	for _, c := range slices.Concat(stayingSteps(), stepsAtBounds(), burstSteps(t)) {
		if want, good := slowRunCloud(c.e, c.from, 1); good != c.good || !alike(want, c.then) {
			t.Error(c.what, "is told wrongly:", c.then, c.good, "and", want, good)
		}
		wantStepCloud(t, c.what, c.e, c.from, c.then, c.good)
		wantRunCloud(t, c.what, c.e, c.from, 1, c.then, c.good)
	}
}

// wantBorn asks how many are born by a step, that they stand behind those that stay, and which coins they took.
func wantBorn(t *testing.T, what string, e impl.Emitter, c impl.Cloud, born int) {
	t.Helper()
	got, good := impl.StepCloud(e, c)
	want, slowGood := slowRunCloud(e, c, 1)
	wantStepCloud(t, what, e, c, want, slowGood)
	stay := slices.DeleteFunc(slices.Clone(c.Sparks), func(s impl.Spark) bool { return s.Left == 1 })
	if !good || len(got.Sparks) != len(stay)+born {
		t.Errorf("%s: %d born, not %d", what, len(got.Sparks)-len(stay), born)
		return
	}
	for i, s := range stay {
		if got.Sparks[i].X != s.X+s.DX || got.Sparks[i].Left != s.Left-1 {
			t.Errorf("%s: spark %d of those that stay is %v", what, i, got.Sparks[i])
		}
	}
	seed := c.Seed
	for i := range born {
		var one impl.Spark
		if one, seed = slowBirth(e, seed); got.Sparks[len(stay)+i] != one {
			t.Errorf("%s: spark %d of those that are born is %v, not %v", what, i, got.Sparks[len(stay)+i], one)
		}
	}
	if got.Seed != seed {
		t.Errorf("%s: the seed is %d, not %d", what, got.Seed, seed)
	}
}

func TestBursts(t *testing.T) {
	e := func(every int, burst int) impl.Emitter {
		return impl.Emitter{X: 100, Every: every, Burst: burst, Life: 4, Speed: 5000, Fall: 3}
	}
	full := append(resting(mostSparks-1, 9), spark(0, 0, 0, 0, 1))
	fullToo := append([]impl.Spark{spark(0, 0, 0, 0, 1)}, resting(mostSparks-1, 9)...)
	for _, c := range []struct {
		what string
		e    impl.Emitter
		c    impl.Cloud
		born int
	}{
		{"step 0", e(mostCloudSteps, 2), cloud(1, 0), 2},
		{"step 0, no burst", e(1, 0), cloud(1, 0), 0},
		{"each step", e(1, 2), cloud(1, 7), 2},
		{"a step that Every divides", e(7, 2), cloud(1, 14), 2},
		{"Every itself", e(7, 2), cloud(1, 7), 2},
		{"one step ahead of it", e(7, 2), cloud(1, 13), 0},
		{"one step behind it", e(7, 2), cloud(1, 15), 0},
		{"a step below Every", e(mostCloudSteps, 2), cloud(1, 1), 0},
		{"a step that divides Every", e(8, 2), cloud(1, 4), 0},
		{"the last step", e(mostCloudSteps, 2), cloud(1, mostCloudSteps-1), 0},
		{"the last step, divided", e(mostCloudSteps-1, 2), cloud(1, mostCloudSteps-1), 2},
		{"the greatest burst", e(1, mostBorn), cloud(1, 0), mostBorn},
		{"behind one that stays", e(1, 2), cloud(1, 0, resting(1, 2)...), 2},
		{"one goes and one is born", e(1, 1), cloud(1, 0, resting(1, 1)...), 1},
		{"it is just full", e(1, mostBorn), cloud(1, 0, resting(mostSparks-mostBorn, 9)...), mostBorn},
		{"one has no room", e(1, mostBorn), cloud(1, 0, resting(mostSparks-mostBorn+1, 9)...), mostBorn - 1},
		{"one has room", e(1, mostBorn), cloud(1, 0, resting(mostSparks-1, 9)...), 1},
		{"none has room", e(1, mostBorn), cloud(1, 0, resting(mostSparks, 9)...), 0},
		{"full until the last goes", e(1, mostBorn), cloud(1, 0, full...), 1},
		{"full until the first goes", e(1, mostBorn), cloud(1, 0, fullToo...), 1},
		{"full until all go", e(1, mostBorn), cloud(1, 0, resting(mostSparks, 1)...), mostBorn},
		{"full, and one goes, at another step", e(2, mostBorn), cloud(1, 1, full...), 0},
		{"the least seed", e(1, 3), cloud(0, 0), 3},
		{"the greatest seed", e(1, 3), cloud(lastSeed, 0), 3},
	} {
		wantBorn(t, c.what, c.e, c.c, c.born)
	}
	for what, e := range goodEmitters() {
		wantBorn(t, what, e, cloud(77, 0, resting(2, 3)...), e.Burst)
	}
	for step := range mostCloudSteps {
		for _, every := range []int{1, 2, 3, 7, 50, mostCloudSteps} {
			wantBorn(t, fmt.Sprint(step, " by ", every), e(every, 1), cloud(5, step), map[bool]int{true: 1}[step/every*every == step])
		}
	}
}

func TestStepAndRunOfWrongInputs(t *testing.T) {
	for what, e := range badEmitters() {
		for _, c := range []impl.Cloud{{}, cloud(1, 3, resting(3, 2)...)} {
			wantStepCloud(t, what, e, c, impl.Cloud{}, false)
			for _, steps := range []int{0, 1, 2} {
				wantRunCloud(t, what, e, c, steps, impl.Cloud{}, false)
			}
		}
		for _, step := range []int{-1, 0, 1, 5} {
			wantSparksAt(t, what, e, 1, step, 0, false)
		}
	}
	for what, c := range badClouds() {
		for _, e := range []impl.Emitter{plainEmitter(), quiet(0)} {
			wantStepCloud(t, what, e, c, impl.Cloud{}, false)
			for _, steps := range []int{0, 1, 2} {
				wantRunCloud(t, what, e, c, steps, impl.Cloud{}, false)
			}
		}
	}
}

func TestStepsFromGoodClouds(t *testing.T) {
	for what, c := range goodClouds() {
		for _, e := range []impl.Emitter{plainEmitter(), quiet(0), quiet(1), quiet(-farThrow), goodEmitters()["the most"]} {
			want, good := slowRunCloud(e, c, 1)
			wantStepCloud(t, what, e, c, want, good)
			wantRunCloud(t, what, e, c, 0, c, true)
		}
	}
}

func TestRunCloud(t *testing.T) {
	e, start := plainEmitter(), cloud(3, 20, spark(1, 2, 3, 4, 50))
	for _, steps := range []int{0, 1, 2, 49, 50, 51, mostCloudSteps - 21, mostCloudSteps - 20} {
		want, good := slowRunCloud(e, start, steps)
		if !good || want.Step != 20+steps {
			t.Fatal(steps, want, good)
		}
		wantRunCloud(t, "in bounds", e, start, steps, want, true)
	}
	for _, steps := range []int{-1, mostCloudSteps - 19, mostCloudSteps, mostCloudSteps + 1, math.MinInt, math.MaxInt, 1 << 32} {
		wantRunCloud(t, "out of bounds", e, start, steps, impl.Cloud{}, false)
		wantRunCloud(t, "out of bounds at the end", e, cloud(3, mostCloudSteps), steps, impl.Cloud{}, false)
	}
	wantRunCloud(t, "no step at the end", e, cloud(3, mostCloudSteps, resting(2, 3)...), 0, cloud(3, mostCloudSteps, resting(2, 3)...), true)
	wantRunCloud(t, "one step at the end", e, cloud(3, mostCloudSteps, resting(2, 3)...), 1, impl.Cloud{}, false)
	wantRunCloud(t, "the last step", quiet(0), cloud(3, mostCloudSteps-1), 1, cloud(3, mostCloudSteps), true)
	wantRunCloud(t, "one behind the last step", quiet(0), cloud(3, mostCloudSteps-1), 2, impl.Cloud{}, false)
	wantRunCloud(t, "all steps", quiet(0), cloud(3, 0), mostCloudSteps, cloud(3, mostCloudSteps), true)
	wantRunCloud(t, "one more than all", quiet(0), cloud(3, 0), mostCloudSteps+1, impl.Cloud{}, false)
	wantRunCloud(t, "all steps from step 1", quiet(0), cloud(3, 1), mostCloudSteps, impl.Cloud{}, false)
}

// What stops being good on its way is not good in the end, even if nothing would be amiss then.
func TestRunsThatStopBeingGood(t *testing.T) {
	const far = farFixed
	for _, c := range []struct {
		what string
		fall int
		s    impl.Spark
		last int
	}{
		{"X leaves at the third step", 0, spark(far-20, 0, 10, 0, 100), 2},
		{"X leaves below", 0, spark(20-far, 0, -10, 0, 100), 2},
		{"X leaves, and it is over then", 0, spark(far, 0, 1, 0, 2), 0},
		{"Y leaves, and it is over then", 0, spark(0, far-1, 0, 1, 3), 1},
		{"Y leaves, and would come back", 2, spark(0, far, 0, 1, 100), 0},
		{"Y leaves later, and would come back", 1, spark(0, far-5, 0, 3, 100), 2},
		{"Y leaves below, and would come back", -2, spark(0, -far, 0, -1, 100), 0},
		{"DY leaves", 1000, spark(0, far, 0, 1500-far, 100), 1},
		{"DY leaves, and it is over then", -1000, spark(0, -far, 0, far-1000, 3), 1},
	} {
		start, e := cloud(1, 5, spark(0, 0, 0, 0, 150), c.s), quiet(c.fall)
		for steps := range 10 {
			want, good := slowRunCloud(e, start, steps)
			if good != (steps <= c.last) {
				t.Error(c.what, "is told wrongly:", steps, good)
			}
			wantRunCloud(t, c.what, e, start, steps, want, good)
		}
	}
}

func TestSparksAt(t *testing.T) {
	for _, c := range []struct {
		what string
		e    impl.Emitter
		many []int
	}{
		{"one a step", impl.Emitter{Every: 1, Burst: 1, Life: 3}, []int{0, 1, 2, 3, 3, 3}},
		{"a life of one step", impl.Emitter{Every: 1, Burst: 4, Life: 1}, []int{0, 4, 4, 4, 4}},
		{"a life of one step, each second", impl.Emitter{Every: 2, Burst: 4, Life: 1}, []int{0, 4, 0, 4, 0, 4}},
		{"bursts apart", impl.Emitter{Every: 3, Burst: 2, Life: 2}, []int{0, 2, 2, 0, 2, 2, 0}},
		{"bursts that meet", impl.Emitter{Every: 2, Burst: 3, Life: 4}, []int{0, 3, 3, 6, 6, 6, 6}},
		{"it fills", impl.Emitter{Every: 1, Burst: 20, Life: 5}, []int{0, 20, 40, 60, 60, 60, 60, 60}},
		{"it fills, and one short burst", impl.Emitter{Every: 1, Burst: 19, Life: 5}, []int{0, 19, 38, 57, 60, 60, 60, 60, 60, 60}},
		{"a short burst is over", impl.Emitter{Every: 1, Burst: 17, Life: 4}, []int{0, 17, 34, 51, 60, 60, 60, 60, 60}},
		{"none", impl.Emitter{Every: 1, Life: 9}, []int{0, 0, 0}},
		{"once", impl.Emitter{Every: 200, Burst: 5, Life: 200}, []int{0, 5, 5, 5}},
	} {
		for step, many := range c.many {
			if want, good := slowSparksAt(c.e, 1, step); want != many || !good {
				t.Error(c.what, "is told wrongly at", step, ":", many, "and", want)
			}
			for _, seed := range []int{0, 1, 65536, lastSeed} {
				wantSparksAt(t, c.what, c.e, seed, step, many, true)
			}
		}
	}
	for what, e := range goodEmitters() {
		for _, step := range []int{0, 1, 2, 6, 100, mostCloudSteps - 1, mostCloudSteps} {
			want, good := slowSparksAt(e, 9, step)
			wantSparksAt(t, what, e, 9, step, want, good)
		}
		for _, step := range []int{-1, mostCloudSteps + 1, math.MinInt, math.MaxInt, 1 << 32} {
			wantSparksAt(t, what, e, 9, step, 0, false)
		}
		for _, seed := range notSeeds() {
			for _, step := range []int{-1, 0, 1, 9} {
				wantSparksAt(t, what, e, seed, step, 0, false)
			}
		}
	}
}

// coinEmitter gives a good emitter out of coins.
func coinEmitter(next func(int) int) impl.Emitter {
	reach := []int{9, 4000}[next(2)]
	return impl.Emitter{
		X: coinNumber(next, reach), Y: 250 * coinNumber(next, 2000),
		Every: 1 + next([]int{3, 12, mostCloudSteps}[next(3)]), Burst: next(mostBorn + 1),
		Life: 1 + next([]int{4, 20, mostCloudSteps}[next(3)]), Speed: min(farThrow, next(4000)*[]int{1, 7, 250}[next(3)]),
		Fall: coinNumber(next, reach),
	}
}

// coinCloud gives a good cloud out of coins.
func coinCloud(next func(int) int) impl.Cloud {
	c := cloud(next(4096)*524287, next([]int{3, mostCloudSteps}[next(2)]))
	life := []int{3, 12, mostCloudSteps}[next(3)]
	for range next([]int{5, mostSparks + 1}[next(2)]) {
		c.Sparks = append(c.Sparks, spark(coinNumber(next, 2000), coinNumber(next, 2000), coinNumber(next, 300), coinNumber(next, 300), 1+next(life)))
	}
	return c
}

// Promise 12: a cloud run in pieces is the same.
func TestCloudInPieces(t *testing.T) {
	full, fell := 0, 0
	for seed := range 700 {
		next := coinRow(seed + 11)
		e, c := coinEmitter(next), coinCloud(next)
		steps := next(min(40, mostCloudSteps-c.Step) + 1)
		whole, good := slowRunCloud(e, c, steps)
		if !good {
			t.Fatal("told wrongly:", e, c, steps)
		}
		wantRunCloud(t, "at once", e, c, steps, whole, true)
		piece := next(steps + 1)
		for _, pieces := range [][]int{{piece, steps - piece}, {0, steps, 0}, slices.Repeat([]int{1}, steps)} {
			at := c
			for _, some := range pieces {
				if at, good = impl.RunCloud(e, at, some); !good {
					t.Fatal(e, c, pieces)
				}
			}
			if !alike(at, whole) {
				t.Fatalf("%v, %v in pieces %v: %v, not %v", e, c, pieces, at, whole)
			}
		}
		at := c
		for range steps {
			before := len(at.Sparks)
			if at, good = impl.StepCloud(e, at); !good {
				t.Fatal(e, c, at)
			}
			if len(at.Sparks) == mostSparks {
				full++
			} else if len(at.Sparks) < before {
				fell++
			}
		}
		if !alike(at, whole) {
			t.Fatalf("%v, %v step by step: %v, not %v", e, c, at, whole)
		}
	}
	if full < 300 || fell < 300 {
		t.Error("full:", full, "fell:", fell)
	}
}

// Promise 12: a cloud from its seed, to the last step, all at once and in pieces.
func TestCloudFromItsSeed(t *testing.T) {
	for seed := range 60 {
		next := coinRow(seed + 501)
		e, from := coinEmitter(next), next(4096)*524287
		whole, good := slowRunCloud(e, cloud(from, 0), mostCloudSteps)
		if !good {
			t.Fatal("told wrongly:", e, from)
		}
		wantRunCloud(t, "from a seed", e, cloud(from, 0), mostCloudSteps, whole, true)
		for _, piece := range []int{0, 1, next(mostCloudSteps), mostCloudSteps - 1, mostCloudSteps} {
			half, _ := impl.RunCloud(e, cloud(from, 0), piece)
			wantRunCloud(t, "in pieces", e, half, mostCloudSteps-piece, whole, true)
			wantSparksAt(t, "in pieces", e, from, piece, len(half.Sparks), true)
			if many, _ := slowSparksAt(e, from, piece); many != len(half.Sparks) {
				t.Fatal(e, from, piece, many, len(half.Sparks))
			}
		}
	}
}

func manyWeights(many int, weight int) []int { return slices.Repeat([]int{weight}, many) }

func TestPickByWeight(t *testing.T) {
	const most = mostWeight
	for _, c := range []struct {
		what    string
		weights []int
		coin    int
		want    int
	}{
		{"one weight, the least coin", []int{1}, 0, 0},
		{"one weight, the greatest coin", []int{1}, 32767, 0},
		{"the greatest weight, the greatest coin", []int{most}, 32767, 0},
		{"just at the bound", []int{1, 1}, 16384, 1},
		{"just below the bound", []int{1, 1}, 16383, 0},
		{"just above the bound", []int{1, 1}, 16385, 1},
		{"at the bound of great ones", []int{most, most}, 16384, 1},
		{"below the bound of great ones", []int{most, most}, 16383, 0},
		{"a third, down", []int{1, 1, 1}, 10922, 0},
		{"a third", []int{1, 1, 1}, 10923, 1},
		{"two thirds, down", []int{1, 1, 1}, 21845, 1},
		{"two thirds", []int{1, 1, 1}, 21846, 2},
		{"one of four at its bound", []int{1, 3}, 8192, 1},
		{"one of four below it", []int{1, 3}, 8191, 0},
		{"three of four at their bound", []int{3, 1}, 24576, 1},
		{"three of four below it", []int{3, 1}, 24575, 0},
		{"0 at the first place, the least coin", []int{0, 5}, 0, 1},
		{"0 at the first places", []int{0, 0, 5, 1}, 0, 2},
		{"0 at the last place, the greatest coin", []int{5, 0}, 32767, 0},
		{"0 at the last places", []int{1, 5, 0, 0}, 32767, 1},
		{"0 between, at the bound", []int{1, 0, 0, 1}, 16384, 3},
		{"0 between, below the bound", []int{1, 0, 0, 1}, 16383, 0},
		{"the least of much", []int{1, most}, 0, 0},
		{"the least of much, not by a coin more", []int{1, most}, 1, 1},
		{"the last of all, the greatest coin", manyWeights(mostSparks, most), 32767, mostSparks - 1},
		{"the first of all, the least coin", manyWeights(mostSparks, most), 0, 0},
		{"the middle of all", manyWeights(mostSparks, most), 16384, mostSparks / 2},
		{"below the middle of all", manyWeights(mostSparks, most), 16383, mostSparks/2 - 1},
	} {
		for _, second := range []int{0, 32767, 12345} {
			seed := seedFor(t, c.coin, second)
			next, coin := slowCoin(seed)
			if want, then, good := slowPick(c.weights, seed); coin != c.coin || want != c.want || then != next || !good {
				t.Error(c.what, "is told wrongly:", c.want, "and", want)
			}
			wantPick(t, c.what, c.weights, seed, c.want, next, true)
		}
	}
	for seed, want := range []int{0, 3, 0, 3, 0, 3} {
		next := []int{12345, 1103527590, 59559187, 1163074432, 119106029, 1222621274}[seed]
		wantPick(t, "small seeds", []int{3, 0, 2, 5}, seed, want, next, true)
	}
	wantPick(t, "the greatest seed", []int{1, 1}, lastSeed, 0, 1043980748, true)
}

func TestPickByWeightOfWrongInputs(t *testing.T) {
	wrong := map[string][]int{
		"no weight":            nil,
		"one weight of 0":      {0},
		"weights of 0":         {0, 0, 0},
		"all weights of 0":     manyWeights(mostSparks, 0),
		"one too many":         manyWeights(mostSparks+1, 1),
		"one too many, of 0":   append([]int{1}, manyWeights(mostSparks, 0)...),
		"far too many":         manyWeights(5000, mostWeight),
		"they undo each other": {-1, 1},
	}
	for _, off := range append(farNumbers(), -1, mostWeight+1, 1<<32) {
		wrong[fmt.Sprint("alone ", off)] = []int{off}
		wrong[fmt.Sprint("first ", off)] = []int{off, 1, 1}
		wrong[fmt.Sprint("between ", off)] = []int{1, off, 1}
		wrong[fmt.Sprint("last ", off)] = []int{1, 1, off}
	}
	for what, weights := range wrong {
		for _, seed := range []int{-1, 0, 1, lastSeed, lastSeed + 1} {
			wantPick(t, what, weights, seed, 0, 0, false)
		}
	}
	for _, seed := range notSeeds() {
		wantPick(t, "no seed", []int{1, 2, 3}, seed, 0, 0, false)
		wantPick(t, "no seed", manyWeights(mostSparks, mostWeight), seed, 0, 0, false)
	}
}

func TestPicksByCoins(t *testing.T) {
	for seed := range 600 {
		next := coinRow(seed + 31)
		weights := make([]int, 1+next([]int{4, mostSparks}[next(2)]))
		for i := range weights {
			weights[i] = next(1 + next(60))
		}
		for _, from := range []int{seed, next(4096) * 524287, lastSeed - seed} {
			want, then, good := slowPick(weights, from)
			wantPick(t, "coins", weights, from, want, then, good)
			if good && weights[want] == 0 {
				t.Error(weights, from, want)
			}
		}
	}
	// Each is picked about as often as its weight says.
	counts, seed := [4]int{}, 1
	for range 6000 {
		var picked int
		picked, seed, _ = impl.PickByWeight([]int{1, 0, 2, 3}, seed)
		counts[picked]++
	}
	for i, about := range []int{1000, 0, 2000, 3000} {
		if max(counts[i]-about, about-counts[i]) > about/10 {
			t.Error(counts)
		}
	}
}

func TestShuffleBy(t *testing.T) {
	for _, c := range []struct {
		many int
		want []int
		then int
	}{
		{0, nil, 1},
		{1, []int{0}, 1},
		{2, []int{1, 0}, 1103527590},
		{3, []int{1, 0, 2}, 377401575},
		{5, []int{4, 1, 0, 2, 3}, 1147902781},
		{8, []int{1, 7, 2, 5, 0, 3, 4, 6}, 1508029952},
	} {
		if want, then, good := slowShuffle(c.many, 1); !alike(want, c.want) || then != c.then || !good {
			t.Error(c.many, "is told wrongly:", c.want, c.then, "and", want, then)
		}
		wantShuffle(t, "told", c.many, 1, c.want, c.then, true)
	}
	for _, c := range []struct {
		first, second int
		want          []int
	}{
		{0, 0, []int{1, 2, 0}},
		{0, 1, []int{2, 1, 0}},
		{1, 0, []int{2, 0, 1}},
		{1, 1, []int{0, 2, 1}},
		{2, 0, []int{1, 0, 2}},
		{2, 1, []int{0, 1, 2}},
		{32766, 32766, []int{1, 2, 0}},
		{32767, 32767, []int{0, 2, 1}},
	} {
		seed := seedFor(t, c.first, c.second)
		then, _ := slowCoin(seed)
		then, _ = slowCoin(then)
		wantShuffle(t, fmt.Sprint("coins ", c.first, c.second), 3, seed, c.want, then, true)
	}
}

// Promise 12: a shuffle has each number once, and is the same again.
func TestShuffleHasEachNumberOnce(t *testing.T) {
	for many := range mostSparks + 1 {
		for _, seed := range []int{0, 1, 2, 12345, 65535, 65536, 1 << 30, 77777 * many, lastSeed - many, lastSeed} {
			got, then, good := impl.ShuffleBy(many, seed)
			end := seed
			for range many - 1 {
				end, _ = slowCoin(end)
			}
			sorted := slices.Sorted(slices.Values(got))
			if !good || !slices.Equal(sorted, counted(many)) || then != end {
				t.Fatal(many, seed, got, then, good)
			}
			want, _, _ := slowShuffle(many, seed)
			wantShuffle(t, "each once", many, seed, want, end, true)
		}
	}
}

// Every order of few numbers comes up.
func TestShufflesInAllOrders(t *testing.T) {
	orders := map[string]int{}
	seed := 5
	for range 2400 {
		var got []int
		got, seed, _ = impl.ShuffleBy(4, seed)
		orders[fmt.Sprint(got)]++
	}
	if len(orders) != 24 {
		t.Error(orders)
	}
}

func TestShuffleByOfWrongInputs(t *testing.T) {
	for _, many := range []int{-1, mostSparks + 1, -mostSparks, 1 << 32, math.MinInt, math.MaxInt} {
		for _, seed := range []int{-1, 0, 1, lastSeed, lastSeed + 1} {
			wantShuffle(t, "many", many, seed, nil, 0, false)
		}
	}
	for _, seed := range notSeeds() {
		for _, many := range []int{-1, 0, 1, 2, mostSparks, mostSparks + 1} {
			wantShuffle(t, "no seed", many, seed, nil, 0, false)
		}
	}
}

// oddNumber gives a number at or beyond a limit of this chapter, or a small one.
func oddNumber(next func(int) int) int {
	odd := append(farNumbers(), -1, 0, 1, 2, mostBorn, mostBorn+1, mostSparks, mostSparks+1, mostCloudSteps-1, mostCloudSteps, mostCloudSteps+1,
		farThrow, farThrow+1, -farThrow, -farThrow-1, lastSeed, lastSeed+1, farFixed, -farFixed, farFixed-1)
	return odd[next(len(odd))]
}

// spoiledCloud gives a cloud with something in it that may be not good.
func spoiledCloud(c impl.Cloud, next func(int) int) impl.Cloud {
	switch kind := next(5); {
	case kind == 0:
		c.Seed = oddNumber(next)
	case kind == 1:
		c.Step = oddNumber(next)
	case kind == 2:
		c.Sparks = append(c.Sparks, resting(mostSparks-len(c.Sparks)+next(2), 1+next(3))...)
	case len(c.Sparks) > 0:
		*sparkFields()[next(5)].at(&c.Sparks[next(len(c.Sparks))]) = oddNumber(next)
	}
	return c
}

func TestSparksAnswerAtAnyArguments(t *testing.T) {
	kinds := map[string]int{}
	for seed := range 3000 {
		next := coinRow(seed + 131)
		e, c, steps := coinEmitter(next), coinCloud(next), next(6)
		if next(3) == 0 {
			*emitterFields()[next(7)].at(&e) = oddNumber(next)
		}
		if next(2) == 0 {
			c = spoiledCloud(c, next)
		}
		if next(4) == 0 {
			steps = oddNumber(next)
		}
		kinds[fmt.Sprint(slowGoodEmitter(e), slowGoodCloud(c))]++
		if got := purely(t, "GoodEmitter", impl.GoodEmitter, e); got[0] != slowGoodEmitter(e) {
			t.Fatalf("GoodEmitter %v = %v", e, got)
		}
		if got := purely(t, "GoodCloud", impl.GoodCloud, c); got[0] != slowGoodCloud(c) {
			t.Fatalf("GoodCloud %v = %v", c, got)
		}
		then, good := slowRunCloud(e, c, 1)
		wantStepCloud(t, "any", e, c, then, good)
		then, good = slowRunCloud(e, c, steps)
		wantRunCloud(t, "any", e, c, steps, then, good)
		many, good := slowSparksAt(e, c.Seed, steps)
		wantSparksAt(t, "any", e, c.Seed, steps, many, good)
		numbers, after, good := slowShuffle(steps, c.Seed)
		wantShuffle(t, "any", steps, c.Seed, numbers, after, good)
		weights := []int{next(9), next(9), oddNumber(next)}
		picked, after, good := slowPick(weights, c.Seed)
		wantPick(t, "any", weights, c.Seed, picked, after, good)
	}
	for _, kind := range []string{"false false", "false true", "true false", "true true"} {
		if kinds[kind] < 100 {
			t.Error(kinds)
		}
	}
}

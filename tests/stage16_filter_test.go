package tests

import (
	"fmt"
	"math"
	"slices"
	"testing"

	"loop.example/g00064/impl"
)

const mostReals = 64
const mostTaps = 8
const mostSlots = 8

// eighth is the cosine and the sine of an eighth of the round, as the document writes it.
const eighth = 0.7071067811865476

// near has a square that is no float: it is rounded down to nearSquare.
const near = 1 + 0x1p-30
const nearSquare = 1 + 0x1p-29

// filterOf reads the five floats in their order.
func filterOf(b0 float64, b1 float64, b2 float64, a1 float64, a2 float64) impl.Filter {
	return impl.Filter{B0: b0, B1: b1, B2: b2, A1: a1, A2: a2}
}

func memoryOf(s1 float64, s2 float64) impl.Memory {
	return impl.Memory{S1: s1, S2: s2}
}

// straight gives a bus that gives what comes in.
func straight(into int) impl.Bus {
	return impl.Bus{Gain: 1, Filter: impl.Filter{B0: 1}, Into: into}
}

func loudness(b impl.Bus, gain float64) impl.Bus {
	b.Gain = gain
	return b
}

func filtered(b impl.Bus, f impl.Filter) impl.Bus {
	b.Filter = f
	return b
}

// busesInto gives a straight bus for each place.
func busesInto(into ...int) []impl.Bus {
	var out []impl.Bus
	for _, place := range into {
		out = append(out, straight(place))
	}
	return out
}

// slowGoodReal reads the bits: a power of all ones is infinite or NaN.
func slowGoodReal(x float64) bool {
	bits := math.Float64bits(x)
	return bits>>52&0x7ff != 0x7ff && bits != 1<<63
}

func slowGoodReals(l ...float64) bool {
	return !slices.ContainsFunc(l, func(x float64) bool { return !slowGoodReal(x) })
}

func slowGoodFilter(f impl.Filter) bool {
	return slowGoodReals(f.B0, f.B1, f.B2, f.A1, f.A2)
}

// lookBack keeps no memory: it looks back at what went in and came out one and two samples ago.
type lookBack struct {
	slow
	f impl.Filter
	m impl.Memory
	x []float64
	y []float64
}

// second gives what S2 is ahead of the sample n.
func (r *lookBack) second(n int) float64 {
	if n == 0 {
		return r.m.S2
	}
	return r.less(r.times(r.f.B2, r.x[n-1]), r.times(r.f.A2, r.y[n-1]))
}

// first gives what S1 is ahead of the sample n.
func (r *lookBack) first(n int) float64 {
	if n == 0 {
		return r.m.S1
	}
	return r.add(r.less(r.times(r.f.B1, r.x[n-1]), r.times(r.f.A1, r.y[n-1])), r.second(n-1))
}

func slowFilter(f impl.Filter, m impl.Memory, x []float64) ([]float64, impl.Memory, bool) {
	if !slowGoodFilter(f) || !slowGoodReals(m.S1, m.S2) || len(x) > mostReals || !slowGoodReals(x...) {
		return nil, impl.Memory{}, false
	}
	r := &lookBack{f: f, m: m, x: x}
	for n := range x {
		r.y = append(r.y, r.add(r.times(f.B0, x[n]), r.first(n)))
	}
	first, second := r.first(len(x)), r.second(len(x))
	if r.bad {
		return nil, impl.Memory{}, false
	}
	for i := range r.y {
		r.y[i] = outOf(&r.slow, r.y[i])
	}
	return r.y, memoryOf(outOf(&r.slow, first), outOf(&r.slow, second)), true
}

// slowWeights gives w(0)..w(7) by their places on the round: each is the other sign of the one half a round on.
func slowWeights() []impl.Turn {
	half := []impl.Turn{{Re: 1}, {Re: eighth, Im: -eighth}, {Im: -1}, {Re: -eighth, Im: -eighth}}
	out := slices.Clone(half)
	for _, w := range half {
		out = append(out, impl.Turn{Re: 0 - w.Re, Im: 0 - w.Im})
	}
	return out
}

func slowSpectrum(x []float64) ([]impl.Turn, bool) {
	if len(x) != mostTaps || !slowGoodReals(x...) {
		return nil, false
	}
	s := &slow{}
	var out []impl.Turn
	for k := range mostTaps {
		re, im := 0.0, 0.0
		for n := range mostTaps {
			w := slowWeights()[k*n%8]
			re, im = s.add(re, s.times(x[n], w.Re)), s.add(im, s.times(x[n], w.Im))
		}
		out = append(out, impl.Turn{Re: outOf(s, re), Im: outOf(s, im)})
	}
	if s.bad {
		return nil, false
	}
	return out, true
}

func slowPower(n impl.Turn) (float64, bool) {
	if !slowGoodReals(n.Re, n.Im) {
		return 0, false
	}
	s := &slow{}
	power := s.add(s.times(n.Re, n.Re), s.times(n.Im, n.Im))
	return outOf(s, power), !s.bad
}

func slowGoodBuses(buses []impl.Bus) bool {
	good := len(buses) <= mostSlots
	for i, b := range buses {
		good = good && slowGoodReal(b.Gain) && slowGoodFilter(b.Filter) && (b.Into == -1 || within(i+1, b.Into, len(buses)-1))
	}
	return good
}

// slowCame adds to a float what the buses that give to one place gave, in their order.
func slowCame(s *slow, buses []impl.Bus, gave []float64, place int, own float64) float64 {
	for i := range gave {
		if buses[i].Into == place {
			own = s.add(own, gave[i])
		}
	}
	return own
}

// slowBuses asks each bus what came to it, instead of sending it there.
func slowBuses(buses []impl.Bus, ins []float64) ([]float64, float64, bool) {
	if !slowGoodBuses(buses) || len(ins) != len(buses) || !slowGoodReals(ins...) {
		return nil, 0, false
	}
	s := &slow{}
	var gave []float64
	for i, b := range buses {
		came := slowCame(s, buses, gave, i, ins[i])
		gave = append(gave, s.add(s.times(b.Filter.B0, s.times(came, b.Gain)), 0))
	}
	master := slowCame(s, buses, gave, -1, 0)
	if s.bad {
		return nil, 0, false
	}
	for i := range gave {
		gave[i] = outOf(s, gave[i])
	}
	return gave, outOf(s, master), true
}

func slowShortRow(x []float64) ([]uint32, bool) {
	if len(x) > mostReals || !slowGoodReals(x...) {
		return nil, false
	}
	var out []uint32
	for _, long := range x {
		short, _ := exact(long).Float32()
		if math.IsInf(float64(short), 0) {
			return nil, false
		}
		// also of -0
		if short == 0 {
			short = 0
		}
		out = append(out, math.Float32bits(short))
	}
	return out, true
}

func wantGoodFilter(t *testing.T, what string, f impl.Filter, want bool) {
	t.Helper()
	if got := purely(t, "GoodFilter", impl.GoodFilter, f); got[0] != want || slowGoodFilter(f) != want {
		t.Errorf("%s: GoodFilter %v = %v, want %v", what, f, got, want)
	}
}

func wantFilter(t *testing.T, what string, f impl.Filter, m impl.Memory, x []float64, y []float64, then impl.Memory, good bool) {
	t.Helper()
	got := purely(t, "RunFilter", impl.RunFilter, f, m, x)
	if !alike(got[0], y) || !alike(got[1], then) || got[2] != good {
		t.Errorf("%s: RunFilter %v, %v, %v = %v, want %v, %v, %v", what, f, m, x, got, y, then, good)
	}
}

// wantSlowFilter asks for what the slow one gives.
func wantSlowFilter(t *testing.T, what string, f impl.Filter, m impl.Memory, x []float64) bool {
	t.Helper()
	y, then, good := slowFilter(f, m, x)
	wantFilter(t, what, f, m, x, y, then, good)
	return good
}

func wantNoFilter(t *testing.T, what string, f impl.Filter, m impl.Memory, x []float64) {
	t.Helper()
	wantFilter(t, what, f, m, x, nil, impl.Memory{}, false)
}

func wantSpectrum(t *testing.T, what string, x []float64, want []impl.Turn, good bool) {
	t.Helper()
	if got := purely(t, "Spectrum", impl.Spectrum, x); !alike(got[0], want) || got[1] != good {
		t.Errorf("%s: Spectrum %v = %v, want %v, %v", what, x, got, want, good)
	}
}

// wantSlowSpectrum asks for what the slow one gives.
func wantSlowSpectrum(t *testing.T, what string, x []float64) bool {
	t.Helper()
	want, good := slowSpectrum(x)
	wantSpectrum(t, what, x, want, good)
	return good
}

func wantPower(t *testing.T, what string, n impl.Turn, want float64, good bool) {
	t.Helper()
	if got := purely(t, "PowerOf", impl.PowerOf, n); !alike(got[0], want) || got[1] != good {
		t.Errorf("%s: PowerOf %v = %v, want %v, %v", what, n, got, want, good)
	}
}

func wantBuses(t *testing.T, what string, buses []impl.Bus, ins []float64, gave []float64, master float64, good bool) {
	t.Helper()
	got := purely(t, "RunBuses", impl.RunBuses, buses, ins)
	if !alike(got[0], gave) || !alike(got[1], master) || got[2] != good {
		t.Errorf("%s: RunBuses %v, %v = %v, want %v, %v, %v", what, buses, ins, got, gave, master, good)
	}
}

// wantSlowBuses asks for what the slow one gives.
func wantSlowBuses(t *testing.T, what string, buses []impl.Bus, ins []float64) bool {
	t.Helper()
	gave, master, good := slowBuses(buses, ins)
	wantBuses(t, what, buses, ins, gave, master, good)
	return good
}

func wantNoBuses(t *testing.T, what string, buses []impl.Bus, ins []float64) {
	t.Helper()
	wantBuses(t, what, buses, ins, nil, 0, false)
}

func wantShortRow(t *testing.T, what string, x []float64, want []uint32, good bool) {
	t.Helper()
	if got := purely(t, "ShortRow", impl.ShortRow, x); !alike(got[0], want) || got[1] != good {
		t.Errorf("%s: ShortRow %v = %v, want %v, %v", what, x, got, want, good)
	}
}

// strangeReals holds floats that are not good: one of each kind, and NaN with other bits.
func strangeReals() []float64 {
	return append(badReals(), math.Float64frombits(0x7ff0000000000001), math.Float64frombits(0xffffffffffffffff))
}

// goodFilters holds filters at each limit that the document names.
func goodFilters() map[string]impl.Filter {
	most := math.MaxFloat64
	return map[string]impl.Filter{
		"noughts":            {},
		"as it is":           {B0: 1},
		"all ones":           filterOf(1, 1, 1, 1, 1),
		"all below 0":        filterOf(-1, -2, -3, -4, -5),
		"the greatest":       filterOf(most, most, most, most, most),
		"the least":          filterOf(-most, -most, -most, -most, -most),
		"beside 0":           filterOf(least, -least, least, -least, least),
		"each of its own":    filterOf(0.1, -20, 3e300, 4e-300, 0),
		"one that goes on":   filterOf(0.25, 0.5, 0.25, -0.9, 0.2),
		"one that swells up": filterOf(1, 0, 0, -3, 0),
	}
}

// spoiledFilters gives the filter with each of its floats made x, each alone.
func spoiledFilters(f impl.Filter, x float64) map[string]impl.Filter {
	b0, b1, b2, a1, a2 := f, f, f, f, f
	b0.B0, b1.B1, b2.B2, a1.A1, a2.A2 = x, x, x, x, x
	return map[string]impl.Filter{"B0": b0, "B1": b1, "B2": b2, "A1": a1, "A2": a2}
}

// badFilters holds filters that are not good, in each way that the document names.
func badFilters() map[string]impl.Filter {
	out := map[string]impl.Filter{}
	for _, bad := range strangeReals() {
		for what, f := range spoiledFilters(filterOf(1, 0.5, 0.25, -0.5, 0.125), bad) {
			out[fmt.Sprintf("%s %x", what, math.Float64bits(bad))] = f
		}
		for what, f := range spoiledFilters(impl.Filter{}, bad) {
			out[fmt.Sprintf("%s %x among noughts", what, math.Float64bits(bad))] = f
		}
		out[fmt.Sprintf("all %x", math.Float64bits(bad))] = filterOf(bad, bad, bad, bad, bad)
	}
	return out
}

func badMemories() []impl.Memory {
	var out []impl.Memory
	for _, bad := range strangeReals() {
		out = append(out, memoryOf(bad, 0), memoryOf(0, bad), memoryOf(bad, 2), memoryOf(1, bad), memoryOf(bad, bad))
	}
	return out
}

// badRows holds rows one of whose floats is not good, at the first, a middle and the last place, and rows too long.
func badRows() [][]float64 {
	out := [][]float64{rowOf(1, mostReals+1), rowOf(0, mostReals+1), rowOf(1, 1000), rowOf(minusNought(), mostReals+1)}
	for _, bad := range strangeReals() {
		out = append(out, []float64{bad})
		for _, place := range []int{0, 1, 2, mostReals / 2, mostReals - 1} {
			row := rowOf(1, mostReals)
			row[place] = bad
			out = append(out, row, row[:place+1])
		}
	}
	return out
}

func TestFilterConstants(t *testing.T) {
	if impl.MaxTaps != mostTaps || impl.MaxSlots != mostSlots || impl.MaxReals != mostReals {
		t.Error(impl.MaxTaps, impl.MaxSlots, impl.MaxReals)
	}
}

func TestGoodFilter(t *testing.T) {
	for what, f := range goodFilters() {
		wantGoodFilter(t, what, f, true)
	}
	for what, f := range badFilters() {
		wantGoodFilter(t, what, f, false)
	}
	for _, x := range realSpread() {
		for what, f := range spoiledFilters(filterOf(1, 2, 3, 4, 5), x) {
			wantGoodFilter(t, what, f, true)
		}
	}
}

func TestFilterTold(t *testing.T) {
	for _, c := range []struct {
		what string
		f    impl.Filter
		m    impl.Memory
		x    []float64
		y    []float64
		then impl.Memory
	}{
		{"no float", filterOf(1, 2, 3, 4, 5), impl.Memory{}, nil, nil, impl.Memory{}},
		{"no float, and a memory", filterOf(1, 2, 3, 4, 5), memoryOf(-7, 8), nil, nil, memoryOf(-7, 8)},
		{"one float", filterOf(2, 3, 4, 5, 6), impl.Memory{}, []float64{1}, []float64{2}, memoryOf(-7, -8)},
		{"one float, and a memory", filterOf(2, 3, 4, 5, 6), memoryOf(10, 100), []float64{1}, []float64{12}, memoryOf(43, -68)},
		{"as it is", impl.Filter{B0: 1}, impl.Memory{}, []float64{3, -4, 0, 5}, []float64{3, -4, 0, 5}, impl.Memory{}},
		{"a half of each", impl.Filter{B0: 0.5}, impl.Memory{}, []float64{3, -4, 0, 5}, []float64{1.5, -2, 0, 2.5}, impl.Memory{}},
		{"one sample later", impl.Filter{B1: 1}, impl.Memory{}, []float64{3, -4, 5}, []float64{0, 3, -4}, memoryOf(5, 0)},
		{"two samples later", impl.Filter{B2: 1}, impl.Memory{}, []float64{3, -4, 5}, []float64{0, 0, 3}, memoryOf(-4, 5)},
		{"two later, from a memory", impl.Filter{B2: 1}, memoryOf(1, 2), []float64{3, -4, 5}, []float64{1, 2, 3}, memoryOf(-4, 5)},
		{"with what came out ahead", filterOf(1, 0, 0, -0.5, 0), impl.Memory{}, []float64{8, 0, 0, 1}, []float64{8, 4, 2, 2}, memoryOf(1, 0)},
		{"with what came out two ahead", filterOf(1, 0, 0, 0, -0.5), impl.Memory{}, []float64{8, 0, 0, 0, 1}, []float64{8, 0, 4, 0, 3}, memoryOf(0, 1.5)},
		{"less what came out ahead", filterOf(1, 0, 0, 1, 0), impl.Memory{}, []float64{5, 5, 5}, []float64{5, 0, 5}, memoryOf(-5, 0)},
		{"all five", filterOf(1, 2, 3, 0.5, 0.25), impl.Memory{}, []float64{4, 8, 16}, []float64{4, 14, 36}, memoryOf(34.5, 39)},
		{"noughts, and a memory", impl.Filter{}, memoryOf(5, 6), []float64{1, 1, 1}, []float64{5, 6, 0}, impl.Memory{}},
		{"a memory below 0", impl.Filter{B0: 1}, memoryOf(-2, -3), []float64{2, 2, 2}, []float64{0, -1, 2}, impl.Memory{}},
	} {
		wantFilter(t, c.what, c.f, c.m, c.x, c.y, c.then, true)
		if y, then, good := slowFilter(c.f, c.m, c.x); !alike(y, c.y) || !alike(then, c.then) || !good {
			t.Error(c.what, y, then, good)
		}
	}
}

// Noughts that come out have no sign, whatever they are made of.
func TestFilterNoughts(t *testing.T) {
	for _, c := range []struct {
		what string
		f    impl.Filter
		m    impl.Memory
		x    []float64
		y    []float64
		then impl.Memory
	}{
		{"all coefficients below 0, and noughts", filterOf(-1, -1, -1, -1, -1), impl.Memory{}, []float64{0, 0, 0}, []float64{0, 0, 0}, impl.Memory{}},
		{"S2 of a product below 0", impl.Filter{B2: -1}, impl.Memory{}, []float64{0}, []float64{0}, impl.Memory{}},
		{"S2 of a product below 0, less a nought", filterOf(0, 0, -1, 0, 1), impl.Memory{}, []float64{0, 0}, []float64{0, 0}, impl.Memory{}},
		{"S1 of a product below 0", impl.Filter{B1: -1}, impl.Memory{}, []float64{0}, []float64{0}, impl.Memory{}},
		{"S1 and S2 both", filterOf(0, -1, -1, 1, 1), impl.Memory{}, []float64{0, 0, 0, 0}, []float64{0, 0, 0, 0}, impl.Memory{}},
		{"noughts times what is below 0", impl.Filter{}, impl.Memory{}, []float64{-1, -2, -3}, []float64{0, 0, 0}, impl.Memory{}},
		{"too small for a product", filterOf(-1e-200, -1e-200, -1e-200, 0, 0), impl.Memory{}, []float64{1e-200, 1e-200}, []float64{0, 0}, impl.Memory{}},
		{"too small, from the other side", filterOf(1e-200, 1e-200, 1e-200, 0, 0), impl.Memory{}, []float64{-1e-200, -1e-200, 0}, []float64{0, 0, 0}, impl.Memory{}},
		{"a sum that is a nought", impl.Filter{B0: 1}, memoryOf(3, 0), []float64{-3}, []float64{0}, impl.Memory{}},
		{"differences that are noughts", filterOf(1, 2, 2, 2, 2), impl.Memory{}, []float64{-3, 3}, []float64{-3, 3}, impl.Memory{}},
		{"noughts do not stay", filterOf(1, 0, -1, 0, 0), impl.Memory{}, []float64{0, 5, -2, 1}, []float64{0, 5, -2, -4}, memoryOf(2, -1)},
	} {
		wantFilter(t, c.what, c.f, c.m, c.x, c.y, c.then, true)
	}
}

// Each product is rounded by itself, then the difference, then the sum: as one, or in another order, another float comes out.
func TestFilterRoundsInOrder(t *testing.T) {
	tiny := 0x1p-60
	for _, c := range []struct {
		what string
		f    impl.Filter
		m    impl.Memory
		x    float64
		y    float64
		then impl.Memory
	}{
		{"B0 x ahead of S1", impl.Filter{B0: near}, memoryOf(-nearSquare, 0), near, 0, impl.Memory{}},
		{"B0 x is not the whole", impl.Filter{B0: near}, impl.Memory{}, near, nearSquare, impl.Memory{}},
		{"B1 x ahead of the difference", filterOf(0, near, 0, 1, 0), memoryOf(nearSquare, 0), near, nearSquare, impl.Memory{}},
		{"A1 y ahead of the difference", filterOf(0, nearSquare, 0, near, 0), memoryOf(near, 0), 1, near, impl.Memory{}},
		{"B2 x ahead of the difference", filterOf(0, 0, near, 0, 1), memoryOf(nearSquare, 0), near, nearSquare, impl.Memory{}},
		{"A2 y ahead of the difference", filterOf(0, 0, nearSquare, 0, near), memoryOf(near, 0), 1, near, impl.Memory{}},
		{"the difference ahead of the sum", filterOf(1, 1, 0, 1, 0), memoryOf(0, tiny), 1, 1, memoryOf(tiny, 0)},
		{"the difference ahead, from below", filterOf(1, 1, 0, 1, 0), memoryOf(0, -tiny), -1, -1, memoryOf(-tiny, 0)},
		{"not B1 x and S2 first", filterOf(1, 1e20, 0, 1e20, 0), memoryOf(0, 1), 1, 1, memoryOf(1, 0)},
		{"not A1 y less S2 first", filterOf(0, 0x1p53, 0, 0x1p53, 0), memoryOf(1, 1), 1, 1, memoryOf(1, 0)},
		{"S2 is lost beside a great difference", filterOf(0, 1e20, 0, 0, 0), memoryOf(0, 1), 1, 0, memoryOf(1e20, 0)},
	} {
		wantFilter(t, c.what, c.f, c.m, []float64{c.x}, []float64{c.y}, c.then, true)
	}
}

func TestFilterThatComesOutInfinite(t *testing.T) {
	most := math.MaxFloat64
	for _, c := range []struct {
		what string
		f    impl.Filter
		m    impl.Memory
		x    []float64
	}{
		{"B0 x", impl.Filter{B0: 2}, impl.Memory{}, []float64{most}},
		{"B0 x below", impl.Filter{B0: -2}, impl.Memory{}, []float64{most}},
		{"B0 x, brought back by S1", impl.Filter{B0: 2}, memoryOf(-most, 0), []float64{most}},
		{"y", impl.Filter{B0: 1}, memoryOf(most, 0), []float64{most}},
		{"B1 x", impl.Filter{B1: 2}, impl.Memory{}, []float64{most}},
		{"A1 y", filterOf(1, 0, 0, 2, 0), impl.Memory{}, []float64{most}},
		{"B1 x and A1 y both", filterOf(1, 2, 0, 2, 0), impl.Memory{}, []float64{most}},
		{"the difference of the first", filterOf(1, 1, 0, -1, 0), impl.Memory{}, []float64{most}},
		{"the difference, brought back by S2", filterOf(1, 1, 0, -1, 0), memoryOf(0, -most), []float64{most}},
		{"S1", impl.Filter{B1: 1}, memoryOf(0, most), []float64{most}},
		{"B2 x", impl.Filter{B2: 2}, impl.Memory{}, []float64{most}},
		{"A2 y", filterOf(1, 0, 0, 0, -2), impl.Memory{}, []float64{most}},
		{"B2 x and A2 y both", filterOf(1, 0, 2, 0, 2), impl.Memory{}, []float64{most}},
		{"the difference of the second", filterOf(1, 0, 1, 0, -1), impl.Memory{}, []float64{most}},
		{"at the first of several", impl.Filter{B0: 2}, impl.Memory{}, []float64{most, 0, 0}},
		{"in the midst", impl.Filter{B0: 2}, impl.Memory{}, []float64{0, most, 0}},
		{"in the memory at the last one alone", impl.Filter{B0: 1, B2: 2}, impl.Memory{}, []float64{0, 0, most}},
		{"by what goes on", filterOf(1, 0, 0, -1e30, 0), impl.Memory{}, append([]float64{1}, rowOf(0, 20)...)},
	} {
		wantNoFilter(t, c.what, c.f, c.m, c.x)
		if _, _, good := slowFilter(c.f, c.m, c.x); good {
			t.Error(c.what)
		}
	}
	just := []float64{most, -most}
	wantFilter(t, "just not", impl.Filter{B0: 1, B1: -1}, impl.Memory{}, []float64{most}, []float64{most}, memoryOf(-most, 0), true)
	wantFilter(t, "just not, twice", filterOf(1, 0, 0.5, 0, -0.5), impl.Memory{}, []float64{most}, []float64{most}, memoryOf(0, most), true)
	wantFilter(t, "just not, to and fro", impl.Filter{B0: 1}, impl.Memory{}, just, just, impl.Memory{}, true)
}

func TestFilterOfWrongInputs(t *testing.T) {
	good, m := filterOf(1, 0.5, 0.25, -0.5, 0.125), memoryOf(1, 2)
	for what, f := range badFilters() {
		wantNoFilter(t, what, f, m, []float64{1, 2})
		wantNoFilter(t, what, f, impl.Memory{}, nil)
		wantNoFilter(t, what, f, impl.Memory{}, []float64{0})
	}
	for _, bad := range badMemories() {
		wantNoFilter(t, "a memory", good, bad, []float64{1, 2})
		wantNoFilter(t, "a memory", impl.Filter{}, bad, nil)
		wantNoFilter(t, "a memory", impl.Filter{B0: 1}, bad, []float64{0})
	}
	for _, row := range badRows() {
		wantNoFilter(t, "a row", good, m, row)
		wantNoFilter(t, "a row", impl.Filter{}, impl.Memory{}, row)
	}
}

func TestFilterAtTheLimits(t *testing.T) {
	for what, f := range goodFilters() {
		for _, many := range []int{0, 1, 2, 3, mostReals - 1, mostReals} {
			wantSlowFilter(t, what, f, impl.Memory{}, rowOf(0, many))
			wantSlowFilter(t, what, f, memoryOf(0.1, -0.2), rowOf(0.3, many))
			wantSlowFilter(t, what, f, memoryOf(least, -least), rowOf(-least, many))
		}
		wantNoFilter(t, what, f, impl.Memory{}, rowOf(0, mostReals+1))
	}
	row := coinReals(160, mostReals, 3)
	wantFilter(t, "as many as may be", impl.Filter{B0: 1}, impl.Memory{}, row, row, impl.Memory{}, true)
	for _, x := range realSpread() {
		wantFilter(t, "as it is", impl.Filter{B0: 1}, impl.Memory{}, []float64{x}, []float64{x}, impl.Memory{}, true)
		wantFilter(t, "out of the memory", impl.Filter{}, memoryOf(x, -2), []float64{5}, []float64{x}, memoryOf(-2, 0), true)
		wantFilter(t, "into the memory", impl.Filter{B1: 1, B2: -1}, impl.Memory{}, []float64{x}, []float64{0}, memoryOf(x, 0-x), true)
	}
}

// coinOf takes one of a row by a coin.
func coinOf[T any](next func(int) int, l []T) T {
	return l[next(len(l))]
}

func coinFilter(next func(int) int, pool []float64) impl.Filter {
	return filterOf(coinOf(next, pool), coinOf(next, pool), coinOf(next, pool), coinOf(next, pool), coinOf(next, pool))
}

func coinRowOf(next func(int) int, pool []float64, many int) []float64 {
	var out []float64
	for range many {
		out = append(out, coinOf(next, pool))
	}
	return out
}

// pools holds floats of several kinds: near 1, far from one another, small ones with many noughts, and of every size.
func pools() [][]float64 {
	small := []float64{0, 0, 0, 1, -1, 0.5, -0.5, 0.1, -0.1, 3}
	return [][]float64{coinReals(1601, 60, 1), coinReals(1602, 60, 8), coinReals(1603, 60, 300), small, realSpread()}
}

func TestFilterOfCoins(t *testing.T) {
	taken, refused := 0, 0
	for seed := range 1500 {
		next := coinRow(seed + 1600)
		pool := coinOf(next, pools())
		f, m := coinFilter(next, pool), memoryOf(coinOf(next, pool), coinOf(next, pool))
		if wantSlowFilter(t, "coins", f, m, coinRowOf(next, coinOf(next, pools()), next(20))) {
			taken++
		} else {
			refused++
		}
	}
	if taken < 500 || refused < 200 {
		t.Error(taken, refused)
	}
}

// wantFilterInPieces runs the row up to the cut, and the rest with the memory then.
func wantFilterInPieces(t *testing.T, f impl.Filter, m impl.Memory, x []float64, cut int) {
	t.Helper()
	whole, end, good := impl.RunFilter(f, m, x)
	first, mid, goodFirst := impl.RunFilter(f, m, x[:cut])
	if !goodFirst {
		if good {
			t.Fatalf("%v, %v, %v: taken whole, and not up to %d", f, m, x, cut)
		}
		return
	}
	second, last, goodSecond := impl.RunFilter(f, mid, x[cut:])
	if good != goodSecond {
		t.Fatalf("%v, %v, %v: cut at %d: %v, not %v", f, m, x, cut, goodSecond, good)
	}
	if good && (!sameRow(whole, slices.Concat(first, second)) || !alike(end, last)) {
		t.Fatalf("%v, %v, %v: cut at %d: %v, %v, %v and %v, %v", f, m, x, cut, whole, end, first, second, last)
	}
}

// Promise 16.
func TestFilterRunInPiecesGivesTheSameBits(t *testing.T) {
	for _, f := range goodFilters() {
		for _, row := range [][]float64{rowOf(0, 10), rowOf(0.3, 10), {-least, least, 0, 0, -1, 1}, coinReals(1604, mostReals, 2)} {
			for cut := range len(row) + 1 {
				wantFilterInPieces(t, f, memoryOf(0.1, -0.7), row, cut)
				wantFilterInPieces(t, f, impl.Memory{}, row, cut)
			}
		}
	}
	for seed := range 400 {
		next := coinRow(seed + 1616)
		pool := coinOf(next, pools())
		f, m := coinFilter(next, pool), memoryOf(coinOf(next, pool), coinOf(next, pool))
		row := coinRowOf(next, pool, 1+next(mostReals))
		for cut := range len(row) + 1 {
			wantFilterInPieces(t, f, m, row, cut)
		}
	}
}

// Promise 16.
func TestFilterRunOneByOneGivesTheSameBits(t *testing.T) {
	whole := 0
	for seed := range 600 {
		next := coinRow(seed + 1661)
		pool := coinOf(next, pools()[:4])
		f, m := coinFilter(next, pool), memoryOf(coinOf(next, pool), coinOf(next, pool))
		row := coinRowOf(next, pool, mostReals)
		y, end, good := impl.RunFilter(f, m, row)
		if !good {
			continue
		}
		whole++
		var joined []float64
		for _, x := range row {
			one, then, good := impl.RunFilter(f, m, []float64{x})
			if !good || len(one) != 1 {
				t.Fatal(f, m, x, one, good)
			}
			joined, m = append(joined, one[0]), then
		}
		if !sameRow(y, joined) || !alike(end, m) {
			t.Fatal(f, row, y, joined, end, m)
		}
	}
	if whole < 200 {
		t.Error("too few rows:", whole)
	}
}

func TestSpectrumTold(t *testing.T) {
	c := eighth
	row := func(parts ...float64) []impl.Turn { return turnsOf(parts) }
	for _, s := range []struct {
		what string
		x    []float64
		want []impl.Turn
	}{
		{"noughts", rowOf(0, 8), make([]impl.Turn, 8)},
		{"a 1 at 0", []float64{1, 0, 0, 0, 0, 0, 0, 0}, row(1, 0, 1, 0, 1, 0, 1, 0, 1, 0, 1, 0, 1, 0, 1, 0)},
		{"a 1 at 1", []float64{0, 1, 0, 0, 0, 0, 0, 0}, row(1, 0, c, -c, 0, -1, -c, -c, -1, 0, -c, c, 0, 1, c, c)},
		{"a 1 at 2", []float64{0, 0, 1, 0, 0, 0, 0, 0}, row(1, 0, 0, -1, -1, 0, 0, 1, 1, 0, 0, -1, -1, 0, 0, 1)},
		{"a 1 at 3", []float64{0, 0, 0, 1, 0, 0, 0, 0}, row(1, 0, -c, -c, 0, 1, c, -c, -1, 0, c, c, 0, -1, -c, c)},
		{"a 1 at 4", []float64{0, 0, 0, 0, 1, 0, 0, 0}, row(1, 0, -1, 0, 1, 0, -1, 0, 1, 0, -1, 0, 1, 0, -1, 0)},
		{"a 1 at 5", []float64{0, 0, 0, 0, 0, 1, 0, 0}, row(1, 0, -c, c, 0, -1, c, c, -1, 0, c, -c, 0, 1, -c, -c)},
		{"a 1 at 6", []float64{0, 0, 0, 0, 0, 0, 1, 0}, row(1, 0, 0, 1, -1, 0, 0, -1, 1, 0, 0, 1, -1, 0, 0, -1)},
		{"a 1 at 7", []float64{0, 0, 0, 0, 0, 0, 0, 1}, row(1, 0, c, c, 0, 1, -c, c, -1, 0, -c, -c, 0, -1, c, -c)},
	} {
		wantSpectrum(t, s.what, s.x, s.want, true)
		if slow, good := slowSpectrum(s.x); !alike(slow, s.want) || !good {
			t.Error(s.what, slow, good)
		}
	}
}

func TestSpectrumOfEightAlike(t *testing.T) {
	for _, x := range realSpread() {
		wantSlowSpectrum(t, "alike", rowOf(x, 8))
		for place := range mostTaps {
			row := rowOf(0, 8)
			row[place] = x
			wantSlowSpectrum(t, "one among noughts", row)
			row = rowOf(-1, 8)
			row[place] = x
			wantSlowSpectrum(t, "one among others", row)
		}
	}
	got, good := impl.Spectrum(rowOf(3, 8))
	if !good || got[0] != (impl.Turn{Re: 24}) || got[4] != (impl.Turn{}) || got[2] != (impl.Turn{}) || got[6] != (impl.Turn{}) {
		t.Error(got, good)
	}
	for _, k := range []int{1, 3, 5, 7} {
		if math.Hypot(got[k].Re, got[k].Im) > 1e-14 {
			t.Error(k, got[k])
		}
	}
}

// The sum goes from the first to the last: in another order another float comes out.
func TestSpectrumAddsInOrder(t *testing.T) {
	for _, c := range []struct {
		x    []float64
		k    int
		want impl.Turn
	}{
		{[]float64{1e20, 1, -1e20, 0, 0, 0, 0, 0}, 0, impl.Turn{}},
		{[]float64{1e20, -1e20, 1, 0, 0, 0, 0, 0}, 0, impl.Turn{Re: 1}},
		{[]float64{1, 1e20, -1e20, 0, 0, 0, 0, 0}, 0, impl.Turn{}},
		{[]float64{0x1p53, 1, 1, 1, 1, 1, 1, 1}, 0, impl.Turn{Re: 0x1p53}},
		{[]float64{1, 1, 1, 1, 1, 1, 1, 0x1p53}, 0, impl.Turn{Re: 0x1p53 + 8}},
		{[]float64{0.1, 0.2, 0.3, 0, 0, 0, 0, 0}, 0, impl.Turn{Re: 0.6000000000000001}},
		{[]float64{0.3, 0.2, 0.1, 0, 0, 0, 0, 0}, 0, impl.Turn{Re: 0.6}},
		{[]float64{1e20, 1, 0, 0, 0, 1e20, 0, 0}, 4, impl.Turn{}},
		{[]float64{0, 1e20, 0, 1e20, 0, 1, 0, 0}, 2, impl.Turn{Im: -1}},
		{[]float64{0, 1, 0, 1e20, 0, 1e20, 0, 0}, 2, impl.Turn{}},
		{[]float64{0, 1, 0, 0, 1e20, 0, 0, 1e20}, 0, impl.Turn{Re: 2e20}},
	} {
		got, good := impl.Spectrum(c.x)
		if !good || !sameTurn(got[c.k], c.want) {
			t.Errorf("%v at %d: %v, not %v", c.x, c.k, got, c.want)
		}
		wantSlowSpectrum(t, "in order", c.x)
	}
	// A product with c is rounded ahead of the sum: as one, what was cut off would be left over.
	x := 1 + 0x1p-52
	s := &slow{}
	product := s.times(x, eighth)
	got, good := impl.Spectrum([]float64{-product, x, 0, 0, 0, 0, 0, 0})
	if !good || got[1].Re != 0 || got[1].Im != -product {
		t.Error(got, good)
	}
}

func TestSpectrumThatComesOutInfinite(t *testing.T) {
	most := math.MaxFloat64
	for _, x := range [][]float64{
		rowOf(most, 8), rowOf(-most, 8), {most, most, 0, 0, 0, 0, 0, 0}, {0, 0, 0, 0, 0, 0, -most, -most},
		{most, most, -most, -most, 0, 0, 0, 0}, {most, -most, 0, 0, 0, 0, 0, 0}, {0, most, 0, most, 0, 0, 0, 0}, {most, 0, 0, 0, most, 0, 0, 0},
	} {
		wantSpectrum(t, "infinite", x, nil, false)
		if _, good := slowSpectrum(x); good {
			t.Error(x)
		}
	}
	for place := range mostTaps {
		row := rowOf(0, 8)
		row[place] = most
		if !wantSlowSpectrum(t, "just not", row) {
			t.Error("refused", row)
		}
	}
}

func TestSpectrumOfWrongInputs(t *testing.T) {
	for many := range 20 {
		wantSlowSpectrum(t, "so many", rowOf(1, many))
		if many != mostTaps {
			wantSpectrum(t, "not eight", rowOf(1, many), nil, false)
			wantSpectrum(t, "not eight", rowOf(0, many), nil, false)
		}
	}
	wantSpectrum(t, "far too many", rowOf(0, mostReals), nil, false)
	wantSpectrum(t, "far too many", rowOf(0, 8000), nil, false)
	for _, bad := range strangeReals() {
		for place := range mostTaps {
			row := rowOf(1, 8)
			row[place] = bad
			wantSpectrum(t, "not good", row, nil, false)
			row = rowOf(0, 8)
			row[place] = bad
			wantSpectrum(t, "not good among noughts", row, nil, false)
		}
	}
}

func TestSpectrumOfCoins(t *testing.T) {
	taken, refused := 0, 0
	for seed := range 1200 {
		next := coinRow(seed + 1670)
		if wantSlowSpectrum(t, "coins", coinRowOf(next, coinOf(next, pools()), mostTaps)) {
			taken++
		} else {
			refused++
		}
	}
	if taken < 500 || refused < 30 {
		t.Error(taken, refused)
	}
}

func TestPowerTold(t *testing.T) {
	most := math.MaxFloat64
	for _, c := range []struct {
		n    impl.Turn
		want float64
	}{
		{impl.Turn{}, 0},
		{impl.Turn{Re: 3, Im: 4}, 25},
		{impl.Turn{Re: -3, Im: 4}, 25},
		{impl.Turn{Re: 3, Im: -4}, 25},
		{impl.Turn{Re: -3}, 9},
		{impl.Turn{Im: -4}, 16},
		{impl.Turn{Re: 0.1, Im: 0.2}, 0.05000000000000001},
		{impl.Turn{Re: near}, nearSquare},
		{impl.Turn{Im: near}, nearSquare},
		// the sum lies just below halfway to the next float: with what was cut off near's square it would go up
		{impl.Turn{Re: near, Im: 0x1.695p-27}, nearSquare},
		{impl.Turn{Re: 0x1.695p-27, Im: near}, nearSquare},
		{impl.Turn{Re: least, Im: -least}, 0},
		{impl.Turn{Re: -1e-200}, 0},
		{impl.Turn{Re: 1e154}, 1e308},
	} {
		slow, good := slowPower(c.n)
		if !good || !sameBits(slow, c.want) {
			t.Error(c.n, slow, good, c.want)
		}
		wantPower(t, "told", c.n, c.want, true)
	}
	for _, n := range []impl.Turn{{Re: most}, {Im: most}, {Re: -most, Im: -most}, {Re: 1e154, Im: 1e154}, {Re: 1.4e154}, {Im: -1.4e154}} {
		wantPower(t, "infinite", n, 0, false)
	}
	for _, bad := range strangeReals() {
		for _, n := range []impl.Turn{{Re: bad}, {Im: bad}, {Re: bad, Im: 1}, {Re: 1, Im: bad}, {Re: bad, Im: bad}} {
			wantPower(t, "not good", n, 0, false)
		}
	}
}

func TestPowerExactly(t *testing.T) {
	pool := append(realSpread(), coinReals(1680, 40, 2)...)
	for _, re := range pool {
		for _, im := range pool {
			n := impl.Turn{Re: re, Im: im}
			want, good := slowPower(n)
			wantPower(t, "exactly", n, want, good)
		}
	}
}

func TestBusesTold(t *testing.T) {
	two := impl.Filter{B0: 2, B1: 7, B2: 8, A1: 9, A2: 10}
	for _, c := range []struct {
		what   string
		buses  []impl.Bus
		ins    []float64
		gave   []float64
		master float64
	}{
		{"no bus", nil, nil, nil, 0},
		{"one", busesInto(-1), []float64{5}, []float64{5}, 5},
		{"a gain", []impl.Bus{loudness(straight(-1), 0.5)}, []float64{5}, []float64{2.5}, 2.5},
		{"a filter", []impl.Bus{filtered(straight(-1), two)}, []float64{5}, []float64{10}, 10},
		{"both", []impl.Bus{filtered(loudness(straight(-1), -3), two)}, []float64{5}, []float64{-30}, -30},
		{"nothing of it", []impl.Bus{{Into: -1}}, []float64{5}, []float64{0}, 0},
		{"a filter without B0", []impl.Bus{filtered(straight(-1), filterOf(0, 1, 1, 1, 1))}, []float64{5}, []float64{0}, 0},
		{"several into the master", busesInto(-1, -1, -1), []float64{1, 20, 300}, []float64{1, 20, 300}, 321},
		{"into the next", busesInto(1, -1), []float64{1, 20}, []float64{1, 21}, 21},
		{"into the last", busesInto(2, -1, -1), []float64{1, 20, 300}, []float64{1, 20, 301}, 321},
		{"several into one", busesInto(3, 3, 3, -1), []float64{1, 20, 300, 4000}, []float64{1, 20, 300, 4321}, 4321},
		{"a chain", busesInto(1, 2, 3, -1), []float64{1, 20, 300, 4000}, []float64{1, 21, 321, 4321}, 4321},
		{"a tree", busesInto(2, 2, 4, 4, -1), []float64{1, 2, 4, 8, 16}, []float64{1, 2, 7, 8, 31}, 31},
		{"a chain of gains", []impl.Bus{loudness(straight(1), 2), loudness(straight(2), 3), loudness(straight(-1), 5)}, []float64{1, 10, 100}, []float64{2, 36, 680}, 680},
		{"a gain of what came in, not of its own alone", []impl.Bus{straight(1), loudness(straight(-1), 0.5)}, []float64{6, 2}, []float64{6, 4}, 4},
		{"one gives to the master, one on", busesInto(-1, 2, -1), []float64{1, 20, 300}, []float64{1, 20, 320}, 321},
	} {
		wantBuses(t, c.what, c.buses, c.ins, c.gave, c.master, true)
		if gave, master, good := slowBuses(c.buses, c.ins); !alike(gave, c.gave) || master != c.master || !good {
			t.Error(c.what, gave, master, good)
		}
	}
}

// Its own float comes first, then what came from buses ahead, in their order.
func TestBusesAddInOrder(t *testing.T) {
	for _, c := range []struct {
		what   string
		buses  []impl.Bus
		ins    []float64
		gave   []float64
		master float64
	}{
		{"its own first", busesInto(2, 2, -1), []float64{-1e20, 1, 1e20}, []float64{-1e20, 1, 1}, 1},
		{"the others in order", busesInto(2, 2, -1), []float64{1, -1e20, 1e20}, []float64{1, -1e20, 0}, 0},
		{"its own is lost", busesInto(2, 2, -1), []float64{1e20, -1e20, 1}, []float64{1e20, -1e20, 0}, 0},
		{"the master in order", busesInto(-1, -1, -1), []float64{1e20, -1e20, 1}, []float64{1e20, -1e20, 1}, 1},
		{"the master in another order", busesInto(-1, -1, -1), []float64{1e20, 1, -1e20}, []float64{1e20, 1, -1e20}, 0},
		{"tenths", busesInto(-1, -1, -1), []float64{0.1, 0.2, 0.3}, []float64{0.1, 0.2, 0.3}, 0.6000000000000001},
		{"tenths from behind", busesInto(-1, -1, -1), []float64{0.3, 0.2, 0.1}, []float64{0.3, 0.2, 0.1}, 0.6},
		{"tenths into one", busesInto(2, 2, -1), []float64{0.2, 0.3, 0.1}, []float64{0.2, 0.3, 0.6000000000000001}, 0.6000000000000001},
	} {
		wantBuses(t, c.what, c.buses, c.ins, c.gave, c.master, true)
	}
	// Gain first, then B0: 0.1 times 3 is not a tenth of what 3 times 7 gives.
	s := &slow{}
	gained := []impl.Bus{filtered(loudness(straight(-1), 0.1), impl.Filter{B0: 0.7})}
	want := s.times(s.times(3, 0.1), 0.7)
	if want == s.times(s.times(3, 0.7), 0.1) || want == s.times(3, s.times(0.1, 0.7)) {
		t.Error("the order is not to be seen:", want)
	}
	wantBuses(t, "Gain ahead of B0", gained, []float64{3}, []float64{want}, want, true)
	// Each product is rounded by itself, ahead of the sum in the next bus and in the master.
	squared := loudness(straight(1), near)
	wantBuses(t, "a product into a bus", []impl.Bus{squared, straight(-1)}, []float64{near, -nearSquare}, []float64{nearSquare, 0}, 0, true)
	toMaster := filtered(straight(-1), impl.Filter{B0: near})
	wantBuses(t, "a product into the master", []impl.Bus{straight(-1), toMaster}, []float64{-nearSquare, near}, []float64{-nearSquare, nearSquare}, 0, true)
}

func TestBusesNoughts(t *testing.T) {
	wantBuses(t, "below 0 and a nought", []impl.Bus{loudness(straight(-1), -1)}, []float64{0}, []float64{0}, 0, true)
	wantBuses(t, "a nought of a gain", []impl.Bus{loudness(straight(-1), 0)}, []float64{-5}, []float64{0}, 0, true)
	wantBuses(t, "a nought of a filter", []impl.Bus{filtered(straight(-1), impl.Filter{})}, []float64{-5}, []float64{0}, 0, true)
	wantBuses(t, "too small", []impl.Bus{loudness(straight(1), -1e-200), straight(-1)}, []float64{1e-200, 0}, []float64{0, 0}, 0, true)
	wantBuses(t, "each other away", busesInto(1, -1), []float64{5, -5}, []float64{5, 0}, 0, true)
	wantBuses(t, "each other away in the master", busesInto(-1, -1), []float64{-5, 5}, []float64{-5, 5}, 0, true)
}

func TestBusesThatComeOutInfinite(t *testing.T) {
	most := math.MaxFloat64
	double, none := loudness(straight(-1), 2), impl.Bus{Into: -1}
	into := func(b impl.Bus, place int) impl.Bus {
		b.Into = place
		return b
	}
	for what, c := range map[string]struct {
		buses []impl.Bus
		ins   []float64
	}{
		"by the gain":                        {[]impl.Bus{double}, []float64{most}},
		"by the gain, and a filter of 0":     {[]impl.Bus{filtered(double, impl.Filter{})}, []float64{most}},
		"by the gain, and a small filter":    {[]impl.Bus{filtered(double, impl.Filter{B0: 0.25})}, []float64{most}},
		"by the filter":                      {[]impl.Bus{filtered(straight(-1), impl.Filter{B0: -2})}, []float64{most}},
		"what came in":                       {busesInto(1, -1), []float64{most, most}},
		"what came in, times 0":              {[]impl.Bus{straight(1), none}, []float64{most, most}},
		"what came in, brought back":         {busesInto(2, 2, -1), []float64{most, -most, most}},
		"the master":                         {busesInto(-1, -1), []float64{most, most}},
		"the master, brought back":           {busesInto(-1, -1, -1), []float64{most, most, -most}},
		"the last one of many":               {append(busesInto(-1, -1, -1, -1, -1, -1, -1), double), []float64{0, 0, 0, 0, 0, 0, 0, most}},
		"the first one, into what is 0 then": {[]impl.Bus{into(double, 1), none}, []float64{most, 0}},
	} {
		wantNoBuses(t, what, c.buses, c.ins)
		if _, _, good := slowBuses(c.buses, c.ins); good {
			t.Error(what)
		}
	}
	wantBuses(t, "just not", busesInto(1, -1), []float64{most, -most}, []float64{most, 0}, 0, true)
	wantBuses(t, "just not in the master", busesInto(-1, -1, -1), []float64{most, -most, most}, []float64{most, -most, most}, most, true)
	// What the filter would remember is on no answer's way.
	loud := filterOf(1, most, most, most, -most)
	wantBuses(t, "a memory that would be infinite", []impl.Bus{filtered(straight(-1), loud)}, []float64{most}, []float64{most}, most, true)
}

// badBuses holds buses that are not good, in each way that the document names; each list has two or more.
func badBuses() map[string][]impl.Bus {
	out := map[string][]impl.Bus{
		"into its own number":      busesInto(-1, 1, -1),
		"the first into itself":    busesInto(0, -1),
		"the last into itself":     busesInto(-1, 1),
		"into the one ahead":       busesInto(-1, 0, -1),
		"the last into the first":  busesInto(-1, -1, 0),
		"behind the last":          busesInto(-1, 3, -1),
		"the first behind":         busesInto(2, -1),
		"the last behind":          busesInto(-1, 2),
		"one too many":             busesInto(slices.Repeat([]int{-1}, mostSlots+1)...),
		"one too many, in a chain": busesInto(1, 2, 3, 4, 5, 6, 7, 8, -1),
		"behind the most":          busesInto(-1, -1, -1, -1, -1, -1, 8, -1),
		"far too many":             busesInto(slices.Repeat([]int{-1}, 1000)...),
	}
	for _, far := range append(farNumbers(), -2, -3, 1<<32, 1<<32-1, -1<<32) {
		out[fmt.Sprint("the first into ", far)] = busesInto(far, -1, -1)
		out[fmt.Sprint("the midst into ", far)] = busesInto(-1, far, -1)
		out[fmt.Sprint("the last into ", far)] = busesInto(-1, -1, far)
	}
	for _, bad := range strangeReals() {
		name := fmt.Sprintf("Gain %x", math.Float64bits(bad))
		out["the first "+name] = []impl.Bus{loudness(straight(1), bad), straight(-1)}
		out["the last "+name] = []impl.Bus{straight(1), loudness(straight(-1), bad)}
	}
	for what, f := range badFilters() {
		out["the first's filter "+what] = []impl.Bus{filtered(straight(1), f), straight(-1)}
		out["the last's filter "+what] = []impl.Bus{straight(1), filtered(straight(-1), f)}
	}
	return out
}

func TestBusesOfWrongInputs(t *testing.T) {
	for what, buses := range badBuses() {
		wantNoBuses(t, what, buses, rowOf(1, len(buses)))
		wantNoBuses(t, what, buses, rowOf(0, len(buses)))
		wantNoBuses(t, what, buses[:1], nil)
		if slowGoodBuses(buses) {
			t.Error(what)
		}
	}
	for many := range mostSlots + 1 {
		buses := busesInto(slices.Repeat([]int{-1}, many)...)
		for floats := range mostSlots + 3 {
			if floats != many {
				wantNoBuses(t, "other floats than buses", buses, rowOf(1, floats))
				wantNoBuses(t, "other floats than buses", buses, rowOf(0, floats))
			} else {
				wantBuses(t, "as many floats as buses", buses, rowOf(1, many), rowOf(1, many), float64(many), true)
			}
		}
		for _, bad := range strangeReals() {
			for place := range many {
				ins := rowOf(1, many)
				ins[place] = bad
				wantNoBuses(t, "a float", buses, ins)
			}
		}
	}
	wantNoBuses(t, "a bus alone into itself", busesInto(0), []float64{1})
	wantNoBuses(t, "a bus alone into the next", busesInto(1), []float64{1})
	wantNoBuses(t, "a bus alone ahead of the master", busesInto(-2), []float64{1})
}

// Each place that a bus may have given to, and each that it may not.
func TestBusesIntoEachPlace(t *testing.T) {
	for many := 1; many <= mostSlots; many++ {
		for from := range many {
			for into := -2; into <= many+1; into++ {
				buses := busesInto(slices.Repeat([]int{-1}, many)...)
				buses[from].Into = into
				good := wantSlowBuses(t, "each place", buses, coinReals(many, many, 2))
				if good != (into == -1 || into > from && into < many) {
					t.Error(many, from, into, good)
				}
			}
		}
	}
}

func coinBuses(next func(int) int, pool []float64, many int) []impl.Bus {
	var out []impl.Bus
	for i := range many {
		b := impl.Bus{Gain: coinOf(next, pool), Filter: coinFilter(next, pool), Into: -1}
		if i+1 < many && next(3) > 0 {
			b.Into = i + 1 + next(many-i-1)
		}
		out = append(out, b)
	}
	return out
}

func TestBusesOfCoins(t *testing.T) {
	taken, refused := 0, 0
	for seed := range 2000 {
		next := coinRow(seed + 1690)
		pool, many := coinOf(next, pools()), next(mostSlots+1)
		if wantSlowBuses(t, "coins", coinBuses(next, pool, many), coinRowOf(next, coinOf(next, pools()), many)) {
			taken++
		} else {
			refused++
		}
	}
	if taken < 800 || refused < 200 {
		t.Error(taken, refused)
	}
}

func TestShortRowTold(t *testing.T) {
	wantShortRow(t, "none", nil, nil, true)
	wantShortRow(t, "one", []float64{1}, []uint32{0x3f800000}, true)
	wantShortRow(t, "several", []float64{0, -2, 0.1, 1 + 0x1p-24, 1 + 0x3p-24}, []uint32{0, 0xc0000000, 1036831949, 0x3f800000, 0x3f800002}, true)
	wantShortRow(t, "noughts of both sides", []float64{least, -least, 0x1p-150, -0x1p-150, -1e-300}, []uint32{0, 0, 0, 0, 0}, true)
	wantShortRow(t, "the limits", []float64{shortMost, -shortMost, 0x1p-149, -0x1p-149}, []uint32{0x7f7fffff, 0xff7fffff, 1, 0x80000001}, true)
	wantShortRow(t, "as many as may be", rowOf(-2, mostReals), slices.Repeat([]uint32{0xc0000000}, mostReals), true)
	for _, long := range []float64{shortBeyond, -shortBeyond, 0x1p128, math.MaxFloat64, -math.MaxFloat64} {
		wantShortRow(t, "that has none", []float64{long}, nil, false)
		for _, place := range []int{0, 1, 30, mostReals - 1} {
			row := rowOf(1, mostReals)
			row[place] = long
			wantShortRow(t, "one that has none", row, nil, false)
			wantShortRow(t, "one that has none, last", row[:place+1], nil, false)
			row[place] = math.Nextafter(long, 0)
			want, good := slowShortRow(row)
			wantShortRow(t, "beside it", row, want, good)
		}
	}
	for _, row := range badRows() {
		wantShortRow(t, "not good", row, nil, false)
	}
}

func TestShortRowOfCoins(t *testing.T) {
	pool := append(coinReals(1695, 300, 130), 0, -least, shortMost, shortBeyond, 0x1p-150)
	for seed := range 600 {
		next := coinRow(seed + 1695)
		row := coinRowOf(next, coinOf(next, append(pools(), pool)), next(mostReals+1))
		want, good := slowShortRow(row)
		wantShortRow(t, "coins", row, want, good)
		for i, x := range row {
			if short, ok := impl.ToShort(x); good && (!ok || short != want[i]) {
				t.Error(x, short, ok, want[i])
			}
		}
	}
}

// Promise 29.
func TestFiltersAnswerAtAnyArguments(t *testing.T) {
	kinds := map[string]int{}
	any := append(slices.Repeat(pools()[1], 4), append(realSpread(), strangeReals()...)...)
	for seed := range 4000 {
		next := coinRow(seed + 2916)
		pool := [][]float64{any, pools()[1]}[min(1, next(4))]
		f, m := coinFilter(next, pool), memoryOf(coinOf(next, pool), coinOf(next, pool))
		row := coinRowOf(next, pool, next(12)*next(7))
		if next(3) == 0 {
			row = coinRowOf(next, pool, mostTaps)
		}
		buses := coinBuses(next, pool, next(mostSlots+2))
		if len(buses) > 0 && next(4) == 0 {
			buses[next(len(buses))].Into = append(farNumbers(), 0, 1, 5, -2)[next(len(farNumbers())+4)]
		}
		ins := coinRowOf(next, pool, max(0, len(buses)+[]int{0, 0, 0, 0, 1, -1}[next(6)]))
		wantGoodFilter(t, "any", f, slowGoodFilter(f))
		kinds[fmt.Sprint("filter ", wantSlowFilter(t, "any", f, m, row))]++
		kinds[fmt.Sprint("spectrum ", wantSlowSpectrum(t, "any", row))]++
		n := impl.Turn{Re: coinOf(next, pool), Im: coinOf(next, pool)}
		power, good := slowPower(n)
		wantPower(t, "any", n, power, good)
		kinds[fmt.Sprint("buses ", wantSlowBuses(t, "any", buses, ins))]++
		short, good := slowShortRow(row)
		wantShortRow(t, "any", row, short, good)
		kinds[fmt.Sprint("short ", good)]++
	}
	for _, what := range []string{"filter ", "spectrum ", "buses ", "short "} {
		if kinds[what+"true"] < 400 || kinds[what+"false"] < 400 {
			t.Error(kinds)
		}
	}
}

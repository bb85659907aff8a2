package tests

import (
	"math"
	"math/big"
	"testing"

	"loop.example/g00064/impl"
)

// least is the float next to 0.
const least = math.SmallestNonzeroFloat64

// The greatest float of 32 bits, and the float halfway to what would come behind it.
const shortMost = 0xffffffp104
const shortBeyond = 0x1ffffffp103

func minusNought() float64 { return math.Copysign(0, -1) }

// badReals holds one of each kind that is not good.
func badReals() []float64 {
	return []float64{math.NaN(), math.Inf(1), math.Inf(-1), minusNought()}
}

// realSpread holds good floats of every size, on both sides of 0, the limits among them.
func realSpread() []float64 {
	out := []float64{0}
	for _, x := range []float64{
		least, 2 * least, 3 * least, 0x1p-1022 - least, 0x1p-1022, 1e-300, 1e-200, 1e-170, 1e-154, 0x1p-150, 1e-45,
		1e-20, 0.1, 0.2, 0.3, 0.5, 1 - 0x1p-53, 1, 1 + 0x1p-52, 1.5, 2, 3, 10, 0x1p53 - 1, 0x1p53, 1e20, 1e100,
		shortMost, shortBeyond, 1e154, 1.3e154, 1.4e154, 1e200, 1e300, math.MaxFloat64 / 2, math.MaxFloat64 - 0x1p970, math.MaxFloat64,
	} {
		out = append(out, x, -x)
	}
	return out
}

// coinReals makes good floats out of coins, with sizes of 2 to the powers -reach..reach.
func coinReals(seed int, many int, reach int) []float64 {
	row := coins(seed, 5*many)
	out := []float64{}
	for i := 0; i < len(row); i += 5 {
		digits := uint64(row[i])<<37 | uint64(row[i+1])<<22 | uint64(row[i+2])<<7 | uint64(row[i+3])>>8
		x := math.Ldexp(1+float64(digits)/0x1p52, row[i+4]%(2*reach+1)-reach)
		if row[i+3]&1 != 0 {
			x = -x
		}
		if impl.GoodReal(x) {
			out = append(out, x)
		}
	}
	return out
}

// slow works with fractions without end and rounds each operation by itself; it goes bad where one
// comes out infinite or is no number.
type slow struct{ bad bool }

func (s *slow) round(r *big.Rat) float64 {
	x, _ := r.Float64()
	if math.IsInf(x, 0) {
		s.bad = true
		return 0
	}
	return x
}

func exact(x float64) *big.Rat { return new(big.Rat).SetFloat64(x) }

func (s *slow) add(a float64, b float64) float64 {
	return s.round(new(big.Rat).Add(exact(a), exact(b)))
}

func (s *slow) less(a float64, b float64) float64 {
	return s.round(new(big.Rat).Sub(exact(a), exact(b)))
}

func (s *slow) times(a float64, b float64) float64 {
	return s.round(new(big.Rat).Mul(exact(a), exact(b)))
}

func (s *slow) over(a float64, b float64) float64 {
	if b == 0 {
		s.bad = true
		return 0
	}
	return s.round(new(big.Rat).Quo(exact(a), exact(b)))
}

func slowSum(l []float64) (float64, bool) {
	s, sum := &slow{}, 0.0
	for _, x := range l {
		sum = s.add(sum, x)
	}
	return outOf(s, sum), !s.bad
}

// outOf gives what came out: a nought without a sign, and 0 where it went bad.
func outOf(s *slow, x float64) float64 {
	if s.bad || x == 0 {
		return 0
	}
	return x
}

func slowMul(a impl.Turn, b impl.Turn) (impl.Turn, bool) {
	s := &slow{}
	re := s.less(s.times(a.Re, b.Re), s.times(a.Im, b.Im))
	im := s.add(s.times(a.Re, b.Im), s.times(a.Im, b.Re))
	return impl.Turn{Re: outOf(s, re), Im: outOf(s, im)}, !s.bad
}

func slowDiv(a impl.Turn, b impl.Turn) (impl.Turn, bool) {
	s := &slow{}
	d := s.add(s.times(b.Re, b.Re), s.times(b.Im, b.Im))
	re := s.over(s.add(s.times(a.Re, b.Re), s.times(a.Im, b.Im)), d)
	im := s.over(s.less(s.times(a.Im, b.Re), s.times(a.Re, b.Im)), d)
	return impl.Turn{Re: outOf(s, re), Im: outOf(s, im)}, !s.bad
}

func slowBlend(a float64, b float64, part float64) (float64, bool) {
	s := &slow{}
	x := s.add(a, s.times(s.less(b, a), part))
	return outOf(s, x), !s.bad
}

// sameBits tells noughts apart, and NaN the same as itself.
func sameBits(a float64, b float64) bool {
	return math.Float64bits(a) == math.Float64bits(b)
}

func sameTurn(a impl.Turn, b impl.Turn) bool {
	return sameBits(a.Re, b.Re) && sameBits(a.Im, b.Im)
}

func sameRow(a []float64, b []float64) bool {
	if len(a) != len(b) {
		return false
	}
	for i := range a {
		if !sameBits(a[i], b[i]) {
			return false
		}
	}
	return true
}

func copyRow(l []float64) []float64 { return append([]float64{}, l...) }

func rowOf(x float64, many int) []float64 {
	out := []float64{}
	for range many {
		out = append(out, x)
	}
	return out
}

func wantSum(t *testing.T, l []float64, want float64, good bool) {
	t.Helper()
	if got, ok := impl.SumInOrder(l); !sameBits(got, want) || ok != good {
		t.Errorf("SumInOrder(%v) = %v, %v, not %v, %v", l, got, ok, want, good)
	}
}

func wantMean(t *testing.T, l []float64, want float64, many int, good bool) {
	t.Helper()
	if got, n, ok := impl.MeanOfPresent(l); !sameBits(got, want) || n != many || ok != good {
		t.Errorf("MeanOfPresent(%v) = %v, %d, %v, not %v, %d, %v", l, got, n, ok, want, many, good)
	}
}

func wantMul(t *testing.T, a impl.Turn, b impl.Turn, want impl.Turn, good bool) {
	t.Helper()
	if got, ok := impl.MulTurn(a, b); !sameTurn(got, want) || ok != good {
		t.Errorf("MulTurn(%v, %v) = %v, %v, not %v, %v", a, b, got, ok, want, good)
	}
}

func wantDiv(t *testing.T, a impl.Turn, b impl.Turn, want impl.Turn, good bool) {
	t.Helper()
	if got, ok := impl.DivTurn(a, b); !sameTurn(got, want) || ok != good {
		t.Errorf("DivTurn(%v, %v) = %v, %v, not %v, %v", a, b, got, ok, want, good)
	}
}

func wantBlend(t *testing.T, a float64, b float64, part float64, want float64, good bool) {
	t.Helper()
	if got, ok := impl.Blend(a, b, part); !sameBits(got, want) || ok != good {
		t.Errorf("Blend(%v, %v, %v) = %v, %v, not %v, %v", a, b, part, got, ok, want, good)
	}
}

func wantShort(t *testing.T, x float64, want uint32, good bool) {
	t.Helper()
	if got, ok := impl.ToShort(x); got != want || ok != good {
		t.Errorf("ToShort(%v) = %#x, %v, not %#x, %v", x, got, ok, want, good)
	}
}

func wantOfShort(t *testing.T, b uint32, want float64, good bool) {
	t.Helper()
	if got, ok := impl.OfShort(b); !sameBits(got, want) || ok != good {
		t.Errorf("OfShort(%#x) = %v, %v, not %v, %v", b, got, ok, want, good)
	}
}

func TestGoodReal(t *testing.T) {
	if impl.MaxReals != 64 {
		t.Error("MaxReals", impl.MaxReals)
	}
	for _, x := range append(realSpread(), coinReals(3, 500, 1000)...) {
		if !impl.GoodReal(x) {
			t.Error("refused", x)
		}
	}
	for _, x := range badReals() {
		if impl.GoodReal(x) {
			t.Error("taken", x)
		}
	}
	// NaN has many bits, with and without a sign, quiet and not
	for _, b := range []uint64{0x7ff0000000000001, 0x7ff8000000000000, 0x7fffffffffffffff, 0xfff0000000000001, 0xffffffffffffffff} {
		if impl.GoodReal(math.Float64frombits(b)) {
			t.Errorf("taken %#x", b)
		}
	}
}

func TestSumInOrderTold(t *testing.T) {
	most := math.MaxFloat64
	wantSum(t, nil, 0, true)
	wantSum(t, []float64{}, 0, true)
	wantSum(t, []float64{7}, 7, true)
	wantSum(t, []float64{-least}, -least, true)
	wantSum(t, []float64{0}, 0, true)
	wantSum(t, []float64{0, 0, 0}, 0, true)
	wantSum(t, []float64{0, -3}, -3, true)
	wantSum(t, []float64{-3, 0}, -3, true)
	wantSum(t, []float64{0.1, 0.2, 0.3}, 0.6000000000000001, true)
	wantSum(t, []float64{0.3, 0.2, 0.1}, 0.6, true)
	// sums that end at a nought, and go through one
	wantSum(t, []float64{1, -1}, 0, true)
	wantSum(t, []float64{-1, 1}, 0, true)
	wantSum(t, []float64{-least, least}, 0, true)
	wantSum(t, []float64{-most, most}, 0, true)
	wantSum(t, []float64{-1, 1, -5}, -5, true)
	// in order: what is small is lost beside what is great, and not behind it
	wantSum(t, []float64{1e20, 1, -1e20}, 0, true)
	wantSum(t, []float64{1e20, -1e20, 1}, 1, true)
	wantSum(t, []float64{0x1p53, 1, 1}, 0x1p53, true)
	wantSum(t, []float64{1, 1, 0x1p53}, 0x1p53+2, true)
	// on the way beyond all floats, and just not
	wantSum(t, []float64{most, most}, 0, false)
	wantSum(t, []float64{most, most, -most}, 0, false)
	wantSum(t, []float64{most, -most, most}, most, true)
	wantSum(t, []float64{-most, -most}, 0, false)
	wantSum(t, []float64{-most, -most, most, most}, 0, false)
	wantSum(t, []float64{most, 0x1p970}, 0, false)
	wantSum(t, []float64{most, 0x1p970 - 0x1p917}, most, true)
	wantSum(t, []float64{-most, -0x1p970}, 0, false)
}

func TestSumInOrderAtTheLimit(t *testing.T) {
	wantSum(t, rowOf(1, impl.MaxReals-1), 63, true)
	wantSum(t, rowOf(1, impl.MaxReals), 64, true)
	wantSum(t, rowOf(1, impl.MaxReals+1), 0, false)
	wantSum(t, rowOf(0, impl.MaxReals), 0, true)
	wantSum(t, rowOf(0, impl.MaxReals+1), 0, false)
	wantSum(t, rowOf(1, 5000), 0, false)
}

func TestSumInOrderExactly(t *testing.T) {
	for _, reach := range []int{3, 60, 500, 1022} {
		row := coinReals(29+reach, 600, reach)
		for from := 0; from < len(row); from += 11 {
			l := row[from:min(from+from%70, len(row))]
			if len(l) > impl.MaxReals {
				continue
			}
			want, good := slowSum(l)
			wantSum(t, l, want, good)
		}
	}
	for _, a := range realSpread() {
		for _, b := range realSpread() {
			want, good := slowSum([]float64{a, b})
			wantSum(t, []float64{a, b}, want, good)
		}
	}
}

// Promise 2: sums in order are the same again, and do not hang on how the row is cut.
func TestSumsDoNotHangOnHowTheRowIsCut(t *testing.T) {
	row := append(coinReals(31, 300, 40), 0, 5, -5, 0.1, -0.1)
	for from := 0; from+impl.MaxReals <= len(row); from += 7 {
		l := row[from : from+impl.MaxReals]
		whole, ok := impl.SumInOrder(l)
		again, okAgain := impl.SumInOrder(l)
		if !ok || !okAgain || !sameBits(whole, again) {
			t.Fatalf("%v: %v, and again %v", l, whole, again)
		}
		for cut := range len(l) {
			first, ok := impl.SumInOrder(l[:cut])
			both, okBoth := impl.SumInOrder(append([]float64{first}, l[cut:]...))
			// a row of MaxReals with the sum of none ahead is one too long
			if cut > 0 && (!ok || !okBoth || !sameBits(both, whole)) {
				t.Fatalf("%v cut at %d: %v, not %v", l, cut, both, whole)
			}
		}
	}
}

func TestMeanOfPresentTold(t *testing.T) {
	none, most := math.NaN(), math.MaxFloat64
	wantMean(t, nil, 0, 0, false)
	wantMean(t, []float64{}, 0, 0, false)
	wantMean(t, []float64{none}, 0, 0, false)
	wantMean(t, []float64{none, none, none}, 0, 0, false)
	wantMean(t, []float64{1, none, 2}, 1.5, 2, true)
	wantMean(t, []float64{none, 1, 2, none}, 1.5, 2, true)
	wantMean(t, []float64{1, 2, 4}, 7.0/3, 3, true)
	wantMean(t, []float64{0}, 0, 1, true)
	wantMean(t, []float64{none, -7}, -7, 1, true)
	wantMean(t, []float64{5, none, -5}, 0, 2, true)
	wantMean(t, []float64{0.1, 0.2, none, 0.3}, 0.6000000000000001/3, 3, true)
	// the quotient becomes a nought, from both sides, and just not
	wantMean(t, []float64{least, 0}, 0, 2, true)
	wantMean(t, []float64{-least, 0}, 0, 2, true)
	wantMean(t, []float64{-least, none, 0, 0}, 0, 3, true)
	wantMean(t, []float64{-3 * least, 0}, -2*least, 2, true)
	// beyond all floats on the way, also where the mean itself would not be
	wantMean(t, []float64{most, most}, 0, 0, false)
	wantMean(t, []float64{most, none, most, -most}, 0, 0, false)
	wantMean(t, []float64{-most, -most, none}, 0, 0, false)
	wantMean(t, []float64{most, none, -most, most}, most/3, 3, true)
	for _, bad := range badReals()[1:] {
		wantMean(t, []float64{bad}, 0, 0, false)
		wantMean(t, []float64{1, bad, 2}, 0, 0, false)
		wantMean(t, []float64{none, none, bad}, 0, 0, false)
	}
}

func TestMeanOfPresentAtTheLimit(t *testing.T) {
	none := math.NaN()
	wantMean(t, rowOf(3, impl.MaxReals), 3, 64, true)
	wantMean(t, rowOf(3, impl.MaxReals+1), 0, 0, false)
	wantMean(t, rowOf(none, impl.MaxReals), 0, 0, false)
	wantMean(t, append(rowOf(none, impl.MaxReals-1), 9), 9, 1, true)
	// the missing ones count for the length of the row
	wantMean(t, append(rowOf(none, impl.MaxReals), 9), 0, 0, false)
	wantMean(t, append(rowOf(3, impl.MaxReals), none), 0, 0, false)
}

func TestMeanOfPresentExactly(t *testing.T) {
	row := coinReals(37, 800, 900)
	for from := 0; from < len(row); from += 9 {
		l, present := []float64{}, []float64{}
		for i, x := range row[from:min(from+from%65, len(row))] {
			if (from+i)%4 == 1 {
				l = append(l, math.NaN())
				continue
			}
			l, present = append(l, x), append(present, x)
		}
		sum, good := slowSum(present)
		if !good || len(present) == 0 {
			wantMean(t, l, 0, 0, false)
			continue
		}
		s := &slow{}
		mean := s.over(sum, float64(len(present)))
		wantMean(t, l, outOf(s, mean), len(present), true)
	}
}

func TestMulTurnTold(t *testing.T) {
	i, most := impl.Turn{Im: 1}, math.MaxFloat64
	wantMul(t, i, i, impl.Turn{Re: -1}, true)
	wantMul(t, impl.Turn{Re: 1, Im: 2}, impl.Turn{Re: 3, Im: 4}, impl.Turn{Re: -5, Im: 10}, true)
	wantMul(t, impl.Turn{Re: 2.5, Im: -1}, impl.Turn{Re: 1}, impl.Turn{Re: 2.5, Im: -1}, true)
	// noughts without a sign, whatever the signs of the products are
	wantMul(t, impl.Turn{}, impl.Turn{Re: -3, Im: -4}, impl.Turn{}, true)
	wantMul(t, impl.Turn{Re: -3, Im: 4}, impl.Turn{}, impl.Turn{}, true)
	wantMul(t, impl.Turn{Re: -1}, impl.Turn{Re: 1}, impl.Turn{Re: -1}, true)
	wantMul(t, impl.Turn{Re: -1e-200}, impl.Turn{Re: 1e-200}, impl.Turn{}, true)
	wantMul(t, impl.Turn{Re: -1e-200}, impl.Turn{Im: 1e-200}, impl.Turn{}, true)
	wantMul(t, impl.Turn{Re: -1e-200, Im: -1e-200}, impl.Turn{Re: 1e-200, Im: 1e-200}, impl.Turn{}, true)
	wantMul(t, impl.Turn{Re: -1e-200, Im: 1e-200}, impl.Turn{Re: 1e-200, Im: 1e-200}, impl.Turn{}, true)
	wantMul(t, impl.Turn{Re: 1, Im: 1}, impl.Turn{Re: 1, Im: -1}, impl.Turn{Re: 2}, true)
	wantMul(t, impl.Turn{Re: 3, Im: 3}, impl.Turn{Re: 3, Im: 3}, impl.Turn{Im: 18}, true)
	// each product is rounded by itself: as one the rest of it would be left over
	near := 1 + 0x1p-30
	wantMul(t, impl.Turn{Re: near, Im: near}, impl.Turn{Re: near, Im: near}, impl.Turn{Im: 2 * near * near}, true)
	// beyond all floats in a product, in the sum, and on both sides at once
	wantMul(t, impl.Turn{Re: most}, impl.Turn{Re: 2}, impl.Turn{}, false)
	wantMul(t, impl.Turn{Re: most}, impl.Turn{Im: 2}, impl.Turn{}, false)
	wantMul(t, impl.Turn{Re: most, Im: most}, impl.Turn{Re: 2, Im: 2}, impl.Turn{}, false)
	wantMul(t, impl.Turn{Re: most, Im: most}, impl.Turn{Re: 1, Im: 1}, impl.Turn{}, false)
	wantMul(t, impl.Turn{Re: most, Im: -most}, impl.Turn{Re: 1, Im: 1}, impl.Turn{}, false)
	wantMul(t, impl.Turn{Re: most, Im: most}, impl.Turn{Re: 1}, impl.Turn{Re: most, Im: most}, true)
	wantMul(t, impl.Turn{Re: -most, Im: 1}, impl.Turn{Im: 1}, impl.Turn{Re: -1, Im: -most}, true)
}

func TestDivTurnTold(t *testing.T) {
	i, most := impl.Turn{Im: 1}, math.MaxFloat64
	wantDiv(t, i, i, impl.Turn{Re: 1}, true)
	wantDiv(t, impl.Turn{Re: -5, Im: 10}, impl.Turn{Re: 3, Im: 4}, impl.Turn{Re: 1, Im: 2}, true)
	wantDiv(t, impl.Turn{Re: 1}, i, impl.Turn{Im: -1}, true)
	wantDiv(t, impl.Turn{Re: 1, Im: 1}, impl.Turn{Re: 3}, impl.Turn{Re: 3.0 / 9, Im: 3.0 / 9}, true)
	// d 0: of noughts, and of what is too small for a square
	wantDiv(t, impl.Turn{Re: 1}, impl.Turn{}, impl.Turn{}, false)
	wantDiv(t, impl.Turn{}, impl.Turn{}, impl.Turn{}, false)
	wantDiv(t, impl.Turn{Re: 1}, impl.Turn{Re: 1e-200, Im: -1e-200}, impl.Turn{}, false)
	wantDiv(t, impl.Turn{}, impl.Turn{Im: least}, impl.Turn{}, false)
	wantDiv(t, impl.Turn{}, impl.Turn{Re: 1e-160}, impl.Turn{}, true)
	wantDiv(t, impl.Turn{Re: least}, impl.Turn{Re: 0x1p-537}, impl.Turn{}, true)
	// d beyond all floats, where the quotients would be noughts
	wantDiv(t, impl.Turn{Re: 1}, impl.Turn{Re: 1e200}, impl.Turn{}, false)
	wantDiv(t, impl.Turn{}, impl.Turn{Re: 1e154, Im: 1e154}, impl.Turn{}, false)
	wantDiv(t, impl.Turn{}, impl.Turn{Im: -most}, impl.Turn{}, false)
	wantDiv(t, impl.Turn{}, impl.Turn{Re: 1e154}, impl.Turn{}, true)
	// above d, and by it
	wantDiv(t, impl.Turn{Re: most}, impl.Turn{Re: 2}, impl.Turn{}, false)
	wantDiv(t, impl.Turn{Im: -most}, impl.Turn{Re: 2}, impl.Turn{}, false)
	wantDiv(t, impl.Turn{Re: most, Im: most}, impl.Turn{Re: 1, Im: 1}, impl.Turn{}, false)
	wantDiv(t, impl.Turn{Re: 1e200}, impl.Turn{Re: 1e-120}, impl.Turn{}, false)
	wantDiv(t, impl.Turn{Im: 1e200}, impl.Turn{Im: 1e-120}, impl.Turn{}, false)
	// noughts without a sign
	wantDiv(t, impl.Turn{Re: -least}, impl.Turn{Re: 2}, impl.Turn{}, true)
	wantDiv(t, impl.Turn{Im: -least}, impl.Turn{Re: 2}, impl.Turn{}, true)
	wantDiv(t, impl.Turn{Re: least}, impl.Turn{Im: 2}, impl.Turn{}, true)
	wantDiv(t, impl.Turn{}, impl.Turn{Re: -3, Im: -4}, impl.Turn{}, true)
	wantDiv(t, impl.Turn{Re: -1e-200}, impl.Turn{Re: 1e-130}, impl.Turn{}, true)
	wantDiv(t, impl.Turn{Re: 2, Im: 4}, impl.Turn{Re: 1, Im: 2}, impl.Turn{Re: 2}, true)
}

// turnsOf lays a row of floats two and two.
func turnsOf(row []float64) []impl.Turn {
	out := []impl.Turn{}
	for i := 0; i+1 < len(row); i += 2 {
		out = append(out, impl.Turn{Re: row[i], Im: row[i+1]})
	}
	return out
}

func TestTurnsExactly(t *testing.T) {
	spread := realSpread()
	turns := append(turnsOf(spread), turnsOf(spread[1:])...)
	turns = append(turns, turnsOf(coinReals(41, 40, 2))...)
	turns = append(turns, turnsOf(coinReals(43, 40, 500))...)
	taken, refused := 0, 0
	for _, a := range turns {
		for _, b := range turns {
			want, good := slowMul(a, b)
			wantMul(t, a, b, want, good)
			want, good = slowDiv(a, b)
			wantDiv(t, a, b, want, good)
			if good {
				taken++
			} else {
				refused++
			}
		}
	}
	if taken < 1000 || refused < 1000 {
		t.Error("too few quotients of one kind:", taken, refused)
	}
}

// Promise 2: turns are undone as far as floats go.
func TestTurnsAreUndone(t *testing.T) {
	quarters := []impl.Turn{{Re: 1}, {Im: 1}, {Re: -1}, {Im: -1}, {Re: 0.25}, {Im: -8}}
	turns := append(quarters, turnsOf(coinReals(47, 160, 60))...)
	for _, a := range turns {
		for _, b := range turns {
			there, ok := impl.MulTurn(a, b)
			back, okBack := impl.DivTurn(there, b)
			off := math.Hypot(back.Re-a.Re, back.Im-a.Im)
			if !ok || !okBack || off > 0x1p-49*math.Hypot(a.Re, a.Im) {
				t.Fatalf("%v by %v is %v, and back %v", a, b, there, back)
			}
			other, _ := impl.MulTurn(b, a)
			if !sameTurn(there, other) {
				t.Fatalf("%v by %v is %v, and the other way round %v", a, b, there, other)
			}
		}
	}
	for _, a := range turns {
		for _, b := range quarters {
			there, _ := impl.MulTurn(a, b)
			if back, ok := impl.DivTurn(there, b); !ok || back != a {
				t.Fatalf("%v by %v is %v, and back %v", a, b, there, back)
			}
		}
	}
}

func TestBlendTold(t *testing.T) {
	most := math.MaxFloat64
	wantBlend(t, 2, 4, 0, 2, true)
	wantBlend(t, 2, 4, 1, 4, true)
	wantBlend(t, 2, 4, 0.5, 3, true)
	wantBlend(t, 4, 2, 0.25, 3.5, true)
	wantBlend(t, 0, 0, 0.5, 0, true)
	wantBlend(t, -1, 1, 0.5, 0, true)
	wantBlend(t, 1, -1, 0.5, 0, true)
	wantBlend(t, -3, 0, 1, 0, true)
	wantBlend(t, 0, -least, 0.5, 0, true)
	wantBlend(t, 0, -1, least, -least, true)
	// the end is what comes out by this way, not b itself
	wantBlend(t, 1e20, 1, 1, 0, true)
	wantBlend(t, 0.2, 0.9, 1, 0.8999999999999999, true)
	// beside 0 and 1
	wantBlend(t, 0, 1, least, least, true)
	wantBlend(t, 0, 1, -least, 0, false)
	wantBlend(t, 0, 1, math.Nextafter(1, 0), math.Nextafter(1, 0), true)
	wantBlend(t, 0, 1, math.Nextafter(1, 2), 0, false)
	wantBlend(t, 0, 1, -1, 0, false)
	wantBlend(t, 0, 1, 2, 0, false)
	wantBlend(t, 0, 1, most, 0, false)
	wantBlend(t, 0, 1, -most, 0, false)
	// the difference beyond all floats, also where none of it would be taken
	wantBlend(t, -most, most, 0.5, 0, false)
	wantBlend(t, most, -most, 0.5, 0, false)
	wantBlend(t, -most, most, 0, 0, false)
	wantBlend(t, most, -most, 1, 0, false)
	wantBlend(t, most, most, 0.5, most, true)
	wantBlend(t, 0, -most, 1, -most, true)
	// the product is rounded by itself
	a := 0x1p-53
	wantBlend(t, a, 1, 1-0x1p-53, a+float64((1-a)*(1-0x1p-53)), true)
}

func TestBlendExactly(t *testing.T) {
	parts := []float64{0, least, 0x1p-60, 0.1, 1.0 / 3, 0.5, 0.7, 1 - 0x1p-53, 1}
	spread := append(realSpread(), coinReals(53, 60, 3)...)
	for i, a := range spread {
		for j, b := range spread {
			part := parts[(i*5+j)%len(parts)]
			want, good := slowBlend(a, b, part)
			wantBlend(t, a, b, part, want, good)
		}
	}
	for _, part := range parts {
		for _, a := range coinReals(59, 60, 2) {
			for _, b := range []float64{0, 0.1, -a, 1e10, -1e-10, 1.75} {
				want, good := slowBlend(a, b, part)
				wantBlend(t, a, b, part, want, good)
			}
		}
	}
}

func TestToShortTold(t *testing.T) {
	wantShort(t, 0, 0, true)
	wantShort(t, 1, 0x3f800000, true)
	wantShort(t, -2, 0xc0000000, true)
	wantShort(t, 0.1, 1036831949, true)
	// halfway between two: to the one whose last bit is 0, and beside halfway to the nearer
	wantShort(t, 1+0x1p-24, 0x3f800000, true)
	wantShort(t, 1+0x1p-24+0x1p-52, 0x3f800001, true)
	wantShort(t, 1+0x1p-24-0x1p-52, 0x3f800000, true)
	wantShort(t, 1+0x3p-24, 0x3f800002, true)
	wantShort(t, 1+0x3p-24-0x1p-52, 0x3f800001, true)
	wantShort(t, -1-0x1p-24, 0xbf800000, true)
	wantShort(t, -1-0x3p-24, 0xbf800002, true)
	// the greatest, and what would become infinite
	wantShort(t, shortMost, 0x7f7fffff, true)
	wantShort(t, math.Nextafter(shortBeyond, 0), 0x7f7fffff, true)
	wantShort(t, shortBeyond, 0, false)
	wantShort(t, 0x1p128, 0, false)
	wantShort(t, math.MaxFloat64, 0, false)
	wantShort(t, -shortMost, 0xff7fffff, true)
	wantShort(t, math.Nextafter(-shortBeyond, 0), 0xff7fffff, true)
	wantShort(t, -shortBeyond, 0, false)
	wantShort(t, -math.MaxFloat64, 0, false)
	// the least, and what becomes a nought, from both sides
	wantShort(t, 0x1p-126, 0x00800000, true)
	wantShort(t, 0x1p-126-0x1p-149, 0x007fffff, true)
	wantShort(t, 0x1p-126-0x1p-150, 0x00800000, true)
	wantShort(t, 0x1p-149, 1, true)
	wantShort(t, -0x1p-149, 0x80000001, true)
	wantShort(t, 0x3p-150, 2, true)
	wantShort(t, math.Nextafter(0x1p-150, 1), 1, true)
	wantShort(t, math.Nextafter(-0x1p-150, -1), 0x80000001, true)
	wantShort(t, 0x1p-150, 0, true)
	wantShort(t, -0x1p-150, 0, true)
	wantShort(t, least, 0, true)
	wantShort(t, -least, 0, true)
	wantShort(t, -0x1p-1022, 0, true)
}

// readShort reads the bits of a float of 32 bits by their places.
func readShort(b uint32) (float64, bool) {
	power, digits := int(b>>23&0xff), int(b&0x7fffff)
	if power == 255 || b == 0x80000000 {
		return 0, false
	}
	x := math.Ldexp(float64(digits), -149)
	if power > 0 {
		x = math.Ldexp(float64(digits+1<<23), power-150)
	}
	if b>>31 == 1 {
		x = -x
	}
	return x, true
}

func TestToShortExactly(t *testing.T) {
	try := append(realSpread(), coinReals(61, 2000, 160)...)
	try = append(try, coinReals(67, 300, 1000)...)
	for _, b := range shortSpread() {
		x, ok := readShort(b)
		next, okNext := readShort(b + 1)
		if !ok || !okNext {
			continue
		}
		half := x + (next-x)/2
		try = append(try, half, math.Nextafter(half, x), math.Nextafter(half, next))
	}
	for _, x := range try {
		if !impl.GoodReal(x) {
			continue
		}
		short, _ := exact(x).Float32()
		switch {
		case math.IsInf(float64(short), 0):
			wantShort(t, x, 0, false)
		case short == 0:
			wantShort(t, x, 0, true)
		default:
			wantShort(t, x, math.Float32bits(short), true)
		}
	}
}

// shortSpread holds bits of floats of 32 bits with every power, of both signs, good and not.
func shortSpread() []uint32 {
	out := []uint32{}
	for power := range uint32(256) {
		for _, digits := range []uint32{0, 1, 2, 0x2aaaaa, 0x3fffff, 0x400000, 0x555555, 0x7ffffe, 0x7fffff} {
			out = append(out, power<<23|digits, 1<<31|power<<23|digits)
		}
	}
	return out
}

func TestOfShort(t *testing.T) {
	wantOfShort(t, 0, 0, true)
	wantOfShort(t, 0x3f800000, 1, true)
	wantOfShort(t, 0xc0000000, -2, true)
	wantOfShort(t, 1036831949, 0.10000000149011612, true)
	wantOfShort(t, 1, 0x1p-149, true)
	wantOfShort(t, 0x80000001, -0x1p-149, true)
	wantOfShort(t, 0x007fffff, 0x1p-126-0x1p-149, true)
	wantOfShort(t, 0x00800000, 0x1p-126, true)
	wantOfShort(t, 0x7f7fffff, shortMost, true)
	wantOfShort(t, 0xff7fffff, -shortMost, true)
	// the nought with a sign, both infinities, and NaN of all kinds
	for _, b := range []uint32{
		0x80000000, 0x7f800000, 0xff800000, 0x7f800001, 0x7fbfffff, 0x7fc00000, 0x7fffffff, 0xff800001, 0xffc00000, 0xffffffff,
	} {
		wantOfShort(t, b, 0, false)
	}
	for _, b := range shortSpread() {
		want, good := readShort(b)
		wantOfShort(t, b, want, good)
	}
}

// Promise 2: short floats come back.
func TestShortFloatsComeBack(t *testing.T) {
	try := shortSpread()
	row := coins(71, 8000)
	for i := 0; i+2 < len(row); i += 3 {
		try = append(try, uint32(row[i]<<30|row[i+1]<<15|row[i+2]))
	}
	for _, b := range try {
		x, ok := impl.OfShort(b)
		back, okBack := impl.ToShort(x)
		if ok && (!okBack || back != b) {
			t.Fatalf("%#x is %v, and back %#x, %v", b, x, back, okBack)
		}
	}
	for _, x := range append(realSpread(), coinReals(73, 1000, 170)...) {
		b, ok := impl.ToShort(x)
		short, okShort := impl.OfShort(b)
		again, okAgain := impl.ToShort(short)
		if ok && (!okShort || !okAgain || again != b) {
			t.Fatalf("%v is %#x, that is %v, and back %#x", x, b, short, again)
		}
	}
}

func TestRealOrder(t *testing.T) {
	nan, odd := math.NaN(), math.Float64frombits(0xfff0000000000001)
	// each row holds what is the same; the rows rise
	rows := [][]float64{
		{math.Inf(-1)}, {-math.MaxFloat64}, {-2}, {-1 - 0x1p-52}, {-1}, {-0x1p-1022}, {-least}, {0, minusNought()},
		{least}, {0x1p-1022}, {0.1}, {1}, {1 + 0x1p-52}, {2}, {math.MaxFloat64}, {math.Inf(1)}, {nan, odd, -nan},
	}
	for i, first := range rows {
		for j, second := range rows {
			want := 0
			if i < j {
				want = -1
			} else if i > j {
				want = 1
			}
			for _, a := range first {
				for _, b := range second {
					if got := impl.RealOrder(a, b); got != want {
						t.Errorf("RealOrder(%v, %v) = %d, not %d", a, b, got, want)
					}
				}
			}
		}
	}
}

// Promise 29: what is not good, in each place of each argument, gives the zero answer.
func TestWhatIsNoGoodFloatGivesNothing(t *testing.T) {
	for _, bad := range badReals() {
		for place := range impl.MaxReals {
			l := rowOf(1, impl.MaxReals)
			l[place] = bad
			wantSum(t, l, 0, false)
			wantSum(t, l[:place+1], 0, false)
			if !math.IsNaN(bad) {
				wantMean(t, l, 0, 0, false)
				wantMean(t, l[:place+1], 0, 0, false)
			}
		}
		for _, x := range []float64{0, 1, -3, math.MaxFloat64} {
			good := impl.Turn{Re: 1, Im: x}
			for _, wrong := range []impl.Turn{{Re: bad, Im: x}, {Re: x, Im: bad}, {Re: bad, Im: bad}} {
				wantMul(t, wrong, good, impl.Turn{}, false)
				wantMul(t, good, wrong, impl.Turn{}, false)
				wantMul(t, wrong, wrong, impl.Turn{}, false)
				wantDiv(t, wrong, good, impl.Turn{}, false)
				wantDiv(t, good, wrong, impl.Turn{}, false)
				wantDiv(t, wrong, wrong, impl.Turn{}, false)
			}
			wantBlend(t, bad, x, 0.5, 0, false)
			wantBlend(t, x, bad, 0.5, 0, false)
			wantBlend(t, x, bad, 0, 0, false)
			wantBlend(t, bad, x, 1, 0, false)
			wantBlend(t, x, x, bad, 0, false)
			wantBlend(t, bad, bad, bad, 0, false)
		}
		wantShort(t, bad, 0, false)
	}
}

// Promise 29: nothing is written into a row, and what lies behind its length is neither read nor written.
func TestRowsAreOnlyRead(t *testing.T) {
	for _, behind := range append(badReals(), 1e300, 5) {
		memory := append([]float64{0.5, math.NaN(), 2, -1.25}, rowOf(behind, 80)...)
		before := copyRow(memory)
		wantMean(t, memory[:4], 1.25/3, 3, true)
		wantSum(t, memory[2:4], 0.75, true)
		wantSum(t, memory[:0], 0, true)
		wantMean(t, memory[:0], 0, 0, false)
		wantMean(t, memory[1:2], 0, 0, false)
		wantSum(t, memory[:4], 0, false)
		impl.SumInOrder(memory)
		impl.MeanOfPresent(memory)
		if !sameRow(memory, before) {
			t.Fatalf("%v was written into: %v", before, memory)
		}
	}
}

// Promise 29: every function answers at any arguments: good floats, or nothing, and the same again.
func TestRealsAnswerAtAnyArguments(t *testing.T) {
	defer func() {
		if r := recover(); r != nil {
			t.Error("it panicked:", r)
		}
	}()
	reals := append(append(realSpread(), badReals()...), math.Float64frombits(0x7ff0000000000001))
	for i, a := range reals {
		short, ok := impl.ToShort(a)
		if x, okBack := impl.OfShort(short); !okBack || !ok && short != 0 || !impl.GoodReal(x) {
			t.Errorf("ToShort(%v) = %#x, %v", a, short, ok)
		}
		for j, b := range reals {
			c := reals[(i*7+j*3)%len(reals)]
			sum, ok := impl.SumInOrder([]float64{a, b, c})
			comesOut(t, sum, ok, "sum", a, b, c)
			mean, n, ok := impl.MeanOfPresent([]float64{a, b, c})
			comesOut(t, mean, ok, "mean", a, b, c)
			if ok != (n > 0) || n < 0 || n > 3 {
				t.Errorf("mean of %v, %v, %v: %d, %v", a, b, c, n, ok)
			}
			blend, ok := impl.Blend(a, b, c)
			comesOut(t, blend, ok, "blend", a, b, c)
			for _, f := range []func(impl.Turn, impl.Turn) (impl.Turn, bool){impl.MulTurn, impl.DivTurn} {
				turn, ok := f(impl.Turn{Re: a, Im: b}, impl.Turn{Re: c, Im: a})
				comesOut(t, turn.Re, ok, "turn", a, b, c)
				comesOut(t, turn.Im, ok, "turn", a, b, c)
				again, okAgain := f(impl.Turn{Re: a, Im: b}, impl.Turn{Re: c, Im: a})
				if !sameTurn(turn, again) || ok != okAgain {
					t.Errorf("turns of %v, %v, %v: %v, and again %v", a, b, c, turn, again)
				}
			}
			if impl.RealOrder(a, b) != -impl.RealOrder(b, a) {
				t.Errorf("%v and %v stand both ways", a, b)
			}
		}
	}
}

func comesOut(t *testing.T, x float64, ok bool, what string, from ...float64) {
	t.Helper()
	if !impl.GoodReal(x) || !ok && x != 0 {
		t.Errorf("%s of %v: %v, %v", what, from, x, ok)
	}
}

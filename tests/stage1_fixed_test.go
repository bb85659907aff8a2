package tests

import (
	"math"
	"math/big"
	"strings"
	"testing"

	"loop.example/g00064/impl"
)

// fixedSpread holds fixed numbers of every size, on both sides of 0, the limits among them.
func fixedSpread() []int {
	out := []int{0}
	for _, n := range []int{
		1, 2, 3, 5, 255, 256, 257, 32767, 32768, 32769, 46341, 65535, 65536, 65537, 98304,
		131072, 1048575, 16777216, 16777217, 268435455, 268435456, 268435457, 4294967295,
		4294967296, 777777777777, 274877906944, 549755813888, 549755813889,
		impl.MaxFixed - 65536, impl.MaxFixed - 1, impl.MaxFixed,
	} {
		out = append(out, n, -n)
	}
	return out
}

// notFixed holds ints just beyond the fixed numbers, and the farthest ones.
func notFixed() []int {
	return []int{
		impl.MaxFixed + 1, -impl.MaxFixed - 1, impl.MaxFixed * 2, -impl.MaxFixed * 2,
		math.MaxInt32 * math.MaxInt32, math.MaxInt, math.MinInt, math.MaxInt - 1, math.MinInt + 1,
	}
}

// nearestCut is n / d to the nearest, halves to the greater, cut to the fixed numbers.
func nearestCut(n *big.Int, d *big.Int) int {
	two := big.NewInt(2)
	top := new(big.Int).Add(new(big.Int).Mul(n, two), d)
	bottom := new(big.Int).Mul(d, two)
	if bottom.Sign() < 0 {
		top.Neg(top)
		bottom.Neg(bottom)
	}
	// Div of math/big leaves nothing below 0 over: with a divisor above 0 it goes down.
	q := new(big.Int).Div(top, bottom)
	most := big.NewInt(impl.MaxFixed)
	if q.CmpAbs(most) > 0 {
		return q.Sign() * impl.MaxFixed
	}
	return int(q.Int64())
}

func bigMul(a int, b int) *big.Int {
	return new(big.Int).Mul(big.NewInt(int64(a)), big.NewInt(int64(b)))
}

// coins walks the row of coins from a seed, for numbers to try.
func coins(seed int, many int) []int {
	out := []int{}
	for len(out) < many {
		var coin int
		seed, coin = impl.NextCoin(seed)
		out = append(out, coin)
	}
	return out
}

// coinFixed makes fixed numbers of all sizes out of coins.
func coinFixed(seed int, many int) []int {
	row := coins(seed, 4*many)
	out := []int{}
	for i := 0; i < len(row); i += 4 {
		n := (row[i]<<30 | row[i+1]<<15 | row[i+2]) % (impl.MaxFixed + 1)
		n >>= uint(row[i+3] % 41)
		if row[i+3]&4096 != 0 {
			n = -n
		}
		out = append(out, n)
	}
	return out
}

func TestConstantsOfFixed(t *testing.T) {
	if impl.MaxName != 20 || impl.MaxFixed != 1<<40 || impl.One != 65536 || impl.Round != 4096 {
		t.Error(impl.MaxName, impl.MaxFixed, impl.One, impl.Round)
	}
}

func TestGoodFixed(t *testing.T) {
	for _, x := range fixedSpread() {
		if !impl.GoodFixed(x) {
			t.Error("refused", x)
		}
	}
	for _, x := range notFixed() {
		if impl.GoodFixed(x) {
			t.Error("taken", x)
		}
	}
}

func TestFixMulTold(t *testing.T) {
	for _, c := range []struct{ a, b, want int }{
		{98304, 98304, 147456},
		{65536, 12345, 12345}, {-65536, 12345, -12345},
		{0, impl.MaxFixed, 0}, {-impl.MaxFixed, 0, 0},
		// halves, and beside them, on both sides of 0
		{1, 32767, 0}, {1, 32768, 1}, {1, 32769, 1}, {3, 32768, 2}, {5, 32768, 3},
		{-1, 32767, 0}, {-1, 32768, 0}, {-1, 32769, -1}, {-3, 32768, -1}, {-5, 32768, -2},
		{1, -32768, 0}, {-1, -32768, 1}, {-3, -32768, 2},
		// what is cut, and what is just not
		{impl.MaxFixed, 65536, impl.MaxFixed}, {impl.MaxFixed, -65536, -impl.MaxFixed},
		{impl.MaxFixed, 65535, impl.MaxFixed - 16777216}, {impl.MaxFixed, 65537, impl.MaxFixed},
		{-impl.MaxFixed, 65537, -impl.MaxFixed}, {impl.MaxFixed - 1, 65536, impl.MaxFixed - 1},
		{impl.MaxFixed, impl.MaxFixed, impl.MaxFixed}, {-impl.MaxFixed, -impl.MaxFixed, impl.MaxFixed},
		{impl.MaxFixed, -impl.MaxFixed, -impl.MaxFixed}, {-impl.MaxFixed, impl.MaxFixed, -impl.MaxFixed},
		{1 << 32, 1 << 32, impl.MaxFixed}, {1 << 32, -1 << 32, -impl.MaxFixed},
		{1 << 28, 1 << 28, impl.MaxFixed}, {1<<28 - 1, 1 << 28, impl.MaxFixed - 4096},
	} {
		if got := impl.FixMul(c.a, c.b); got != c.want {
			t.Errorf("FixMul(%d, %d) = %d, not %d", c.a, c.b, got, c.want)
		}
	}
}

func TestFixDivTold(t *testing.T) {
	for _, c := range []struct{ a, b, want int }{
		{65536, 196608, 21845}, {131072, 196608, 43691}, {12345, 65536, 12345}, {12345, -65536, -12345},
		{0, 5, 0}, {0, -5, 0}, {0, 0, 0}, {1, 0, 0}, {impl.MaxFixed, 0, 0}, {-impl.MaxFixed, 0, 0},
		// halves, and beside them, on both sides of 0
		{1, 131072, 1}, {3, 131072, 2}, {1, 131073, 0}, {1, 131071, 1},
		{-1, 131072, 0}, {-3, 131072, -1}, {-5, 131072, -2}, {-1, 131071, -1}, {-1, 131073, 0},
		{1, -131072, 0}, {3, -131072, -1}, {-1, -131072, 1}, {-3, -131072, 2},
		// what is cut, and what is just not
		{impl.MaxFixed, 65536, impl.MaxFixed}, {-impl.MaxFixed, 65536, -impl.MaxFixed},
		{impl.MaxFixed, -65536, -impl.MaxFixed}, {impl.MaxFixed, 65535, impl.MaxFixed},
		{-impl.MaxFixed, 65535, -impl.MaxFixed}, {impl.MaxFixed, 65537, 1099494850816},
		{impl.MaxFixed, 1, impl.MaxFixed}, {impl.MaxFixed, -1, -impl.MaxFixed},
		{-impl.MaxFixed, -1, impl.MaxFixed}, {16777216, 1, impl.MaxFixed}, {16777215, 1, impl.MaxFixed - 65536},
		{16777217, 1, impl.MaxFixed}, {-16777217, 1, -impl.MaxFixed},
		{impl.MaxFixed, impl.MaxFixed, 65536}, {impl.MaxFixed, -impl.MaxFixed, -65536}, {1, impl.MaxFixed, 0},
	} {
		if got := impl.FixDiv(c.a, c.b); got != c.want {
			t.Errorf("FixDiv(%d, %d) = %d, not %d", c.a, c.b, got, c.want)
		}
	}
}

func TestFixMulAndFixDivExactly(t *testing.T) {
	spread := append(fixedSpread(), coinFixed(7, 80)...)
	one := big.NewInt(impl.One)
	for _, a := range spread {
		for _, b := range spread {
			if got, want := impl.FixMul(a, b), nearestCut(bigMul(a, b), one); got != want {
				t.Fatalf("FixMul(%d, %d) = %d, not %d", a, b, got, want)
			}
			want := 0
			if b != 0 {
				want = nearestCut(bigMul(a, impl.One), big.NewInt(int64(b)))
			}
			if got := impl.FixDiv(a, b); got != want {
				t.Fatalf("FixDiv(%d, %d) = %d, not %d", a, b, got, want)
			}
		}
	}
}

// Promise 1: products do not hang on their order.
func TestProductsDoNotHangOnTheirOrder(t *testing.T) {
	spread := append(append(fixedSpread(), notFixed()...), coinFixed(11, 80)...)
	for _, a := range spread {
		for _, b := range spread {
			if impl.FixMul(a, b) != impl.FixMul(b, a) {
				t.Fatalf("FixMul of %d and %d: %d and %d", a, b, impl.FixMul(a, b), impl.FixMul(b, a))
			}
		}
	}
}

// Promise 1: a quotient's product is near: half a part of the quotient times b, and half a part more.
func TestAQuotientsProductIsNear(t *testing.T) {
	spread := append(fixedSpread(), coinFixed(13, 80)...)
	tried := 0
	for _, a := range spread {
		for _, b := range spread {
			q := impl.FixDiv(a, b)
			if b == 0 || q == impl.MaxFixed || q == -impl.MaxFixed {
				continue
			}
			tried++
			off := impl.FixMul(q, b) - a
			far := max(b, -b)/(2*impl.One) + 1
			if off > far || -off > far {
				t.Fatalf("%d / %d = %d, and back %d off, more than %d", a, b, q, off, far)
			}
		}
	}
	if tried < 1000 {
		t.Error("too few were tried:", tried)
	}
}

func TestFixRoot(t *testing.T) {
	for _, c := range []struct{ a, want int }{
		{0, 0}, {1, 256}, {2, 362}, {3, 443}, {4, 512}, {65536, 65536}, {131072, 92681},
		{65535, 65535}, {65537, 65536}, {262144, 131072}, {impl.MaxFixed, 268435456},
		{impl.MaxFixed - 1, 268435455}, {-1, 0}, {-65536, 0}, {-impl.MaxFixed, 0},
	} {
		if got := impl.FixRoot(c.a); got != c.want {
			t.Errorf("FixRoot(%d) = %d, not %d", c.a, got, c.want)
		}
	}
	for _, a := range append(fixedSpread(), coinFixed(17, 2000)...) {
		want := 0
		if a > 0 {
			want = int(new(big.Int).Sqrt(bigMul(a, impl.One)).Int64())
		}
		if got := impl.FixRoot(a); got != want {
			t.Fatalf("FixRoot(%d) = %d, not %d", a, got, want)
		}
	}
	for _, a := range notFixed() {
		if got := impl.FixRoot(a); got != 0 {
			t.Errorf("FixRoot(%d) = %d", a, got)
		}
	}
}

func TestSinOfTold(t *testing.T) {
	table := strings.Fields("0 6424 12785 19024 25080 30893 36410 41576 46341 50660 54491 57798 60547 62714 64277 65220 65536")
	for i, word := range table {
		want, ok := new(big.Int).SetString(word, 10)
		if !ok || impl.SinOf(64*i) != int(want.Int64()) {
			t.Errorf("SinOf(%d) = %d, not %s", 64*i, impl.SinOf(64*i), word)
		}
	}
	for _, c := range []struct{ angle, sin, cos int }{
		{0, 0, 65536}, {1, 100, 65531}, {-1, -100, 65531},
		{63, 6324, 65225}, {65, 6523, 65205}, {32, 3212, 65378}, {-32, -3212, 65378}, {-64, -6424, 65220},
		{1024, 65536, 0}, {1023, 65531, 100}, {1025, 65531, -100},
		{2048, 0, -65536}, {2047, 100, -65531}, {2049, -100, -65531},
		{3072, -65536, 0}, {3071, -65531, -100}, {3073, -65531, 100},
		{4096, 0, 65536}, {4095, -100, 65531}, {4097, 100, 65531},
		{-1024, -65536, 0}, {-2048, 0, -65536}, {-3072, 65536, 0}, {-4096, 0, 65536}, {-4097, -100, 65531},
		{512, 46341, 46341}, {1536, 46341, -46341}, {2560, -46341, -46341}, {3584, -46341, 46341},
		{math.MinInt, 0, 65536}, {math.MaxInt, -100, 65531}, {math.MinInt + 1, 100, 65531},
		{math.MaxInt - 1023, -65536, 0},
	} {
		if s := impl.SinOf(c.angle); s != c.sin {
			t.Errorf("SinOf(%d) = %d, not %d", c.angle, s, c.sin)
		}
		if s := impl.CosOf(c.angle); s != c.cos {
			t.Errorf("CosOf(%d) = %d, not %d", c.angle, s, c.cos)
		}
	}
}

// sinTold reads the document's rule word by word, for an angle in 0..Round - 1.
func sinTold(it int) int {
	t := []int{0, 6424, 12785, 19024, 25080, 30893, 36410, 41576, 46341, 50660, 54491, 57798, 60547, 62714, 64277, 65220, 65536}
	if it >= 2048 {
		return -sinTold(it - 2048)
	}
	if it >= 1025 {
		return sinTold(2048 - it)
	}
	if it == 1024 {
		return t[16]
	}
	q, r := it/64, it%64
	return (t[q]*(64-r) + t[q+1]*r + 32) / 64
}

func TestSinOfAtEachAngle(t *testing.T) {
	for turns := -2; turns <= 2; turns++ {
		for it := range impl.Round {
			angle := turns*impl.Round + it
			if got := impl.SinOf(angle); got != sinTold(it) {
				t.Fatalf("SinOf(%d) = %d, not %d", angle, got, sinTold(it))
			}
			if got, want := impl.CosOf(angle), sinTold((it+1024)%4096); got != want {
				t.Fatalf("CosOf(%d) = %d, not %d", angle, got, want)
			}
		}
	}
}

// Promise 1: sine and cosine lie on the round, as far as straight pieces of 64 parts can.
func TestSineAndCosineLieOnTheRound(t *testing.T) {
	for angle := -impl.Round; angle < impl.Round; angle++ {
		s, c := impl.SinOf(angle), impl.CosOf(angle)
		if off := impl.One - impl.LengthOf(c, s); off < -1 || off > 80 {
			t.Fatalf("at %d the round is missed by %d", angle, off)
		}
		turn := 2 * math.Pi * float64(angle) / impl.Round
		if math.Abs(float64(s)-math.Sin(turn)*impl.One) > 80 || math.Abs(float64(c)-math.Cos(turn)*impl.One) > 80 {
			t.Fatalf("at %d: %d and %d", angle, s, c)
		}
		if impl.SinOf(-angle) != -s || impl.CosOf(-angle) != c || impl.SinOf(angle+2048) != -s {
			t.Fatalf("at %d the halves of the round are unlike", angle)
		}
	}
}

func TestLengthOf(t *testing.T) {
	for _, c := range []struct{ x, y, want int }{
		{0, 0, 0}, {196608, 262144, 327680}, {-196608, 262144, 327680}, {196608, -262144, 327680},
		{1, 0, 1}, {0, -1, 1}, {1, 1, 1}, {1, 2, 2}, {2, 2, 2}, {3, 3, 4}, {5, 12, 13},
		{impl.MaxFixed, 0, impl.MaxFixed}, {0, -impl.MaxFixed, impl.MaxFixed},
		{impl.MaxFixed, 1, impl.MaxFixed}, {impl.MaxFixed, impl.MaxFixed, impl.MaxFixed},
		{-impl.MaxFixed, -impl.MaxFixed, impl.MaxFixed},
		{impl.MaxFixed - 1, 0, impl.MaxFixed - 1}, {impl.MaxFixed - 1, 1, impl.MaxFixed - 1},
		// the last that is less than MaxFixed, and the first that is not
		{impl.MaxFixed - 1, 1482910, impl.MaxFixed - 1}, {impl.MaxFixed - 1, 1482911, impl.MaxFixed},
		{777472127993, 777472127993, impl.MaxFixed - 2}, {777472127994, 777472127994, impl.MaxFixed},
	} {
		if got := impl.LengthOf(c.x, c.y); got != c.want {
			t.Errorf("LengthOf(%d, %d) = %d, not %d", c.x, c.y, got, c.want)
		}
	}
}

func TestLengthOfExactly(t *testing.T) {
	spread := append(fixedSpread(), coinFixed(19, 60)...)
	for _, x := range spread {
		for _, y := range spread {
			sum := new(big.Int).Add(bigMul(x, x), bigMul(y, y))
			want := min(int(new(big.Int).Sqrt(sum).Int64()), impl.MaxFixed)
			if got := impl.LengthOf(x, y); got != want {
				t.Fatalf("LengthOf(%d, %d) = %d, not %d", x, y, got, want)
			}
		}
	}
}

func TestAngleOfTold(t *testing.T) {
	for _, c := range []struct{ x, y, want int }{
		{0, 0, 0}, {65536, 0, 0}, {0, 65536, 1024}, {-65536, 0, 2048}, {0, -65536, 3072},
		{1, 0, 0}, {0, 1, 1024}, {-1, 0, 2048}, {0, -1, 3072},
		{impl.MaxFixed, 0, 0}, {0, impl.MaxFixed, 1024}, {-impl.MaxFixed, 0, 2048}, {0, -impl.MaxFixed, 3072},
		{65536, 65536, 512}, {-65536, 65536, 1536}, {-65536, -65536, 2560}, {65536, -65536, 3584},
		{impl.MaxFixed, impl.MaxFixed, 512}, {-impl.MaxFixed, -impl.MaxFixed, 2560},
	} {
		if got := impl.AngleOf(c.x, c.y); got != c.want {
			t.Errorf("AngleOf(%d, %d) = %d, not %d", c.x, c.y, got, c.want)
		}
	}
}

// bestAngle looks for the first of the best angles, from the last one down.
func bestAngle(x int, y int) int {
	best, most := 0, big.NewInt(0)
	for a := impl.Round - 1; a >= 0; a-- {
		reach := new(big.Int).Add(bigMul(x, sinTold((a+1024)%4096)), bigMul(y, sinTold(a)))
		if a == impl.Round-1 || reach.Cmp(most) >= 0 {
			best, most = a, reach
		}
	}
	return best
}

func TestAngleOfExactly(t *testing.T) {
	row := coinFixed(23, 160)
	for i := 0; i < len(row); i += 2 {
		x, y := row[i], row[i+1]
		want := bestAngle(x, y)
		if x == 0 && y == 0 {
			want = 0
		}
		if got := impl.AngleOf(x, y); got != want {
			t.Fatalf("AngleOf(%d, %d) = %d, not %d", x, y, got, want)
		}
	}
	// of several as good the least: at right angles to a straight piece of the sine all of it is
	// as good as roundings leave it
	for _, q := range []int{0, 3, 8, 15, 16, 31, 40, 63} {
		from, to := 64*q, 64*q+64
		x, y := sinTold(to%4096)-sinTold(from), sinTold((from+1024)%4096)-sinTold((to+1024)%4096)
		if got, want := impl.AngleOf(x, y), bestAngle(x, y); got != want {
			t.Fatalf("AngleOf(%d, %d) = %d, not %d", x, y, got, want)
		}
	}
}

func TestNextCoinTold(t *testing.T) {
	for _, c := range []struct{ seed, next, coin int }{
		{0, 12345, 0}, {1, 1103527590, 16838}, {2147483647, 1043980748, 15929},
		{2147483646, 2087949151, 31859}, {1103527590, 377401575, 5758},
	} {
		if next, coin := impl.NextCoin(c.seed); next != c.next || coin != c.coin {
			t.Errorf("NextCoin(%d) = %d, %d, not %d, %d", c.seed, next, coin, c.next, c.coin)
		}
	}
	want := []int{16838, 5758, 10113, 17515, 31051, 5627, 23010, 7419, 16212, 4086}
	for i, coin := range coins(1, len(want)) {
		if coin != want[i] {
			t.Errorf("coin %d of the row of 1 is %d, not %d", i, coin, want[i])
		}
	}
	for _, seed := range []int{-1, -2147483648, 2147483648, 2147483649, 4294967296, math.MinInt, math.MaxInt} {
		if next, coin := impl.NextCoin(seed); next != 0 || coin != 0 {
			t.Errorf("NextCoin(%d) = %d, %d", seed, next, coin)
		}
	}
}

// Promise 1: a coin's row is told again.
func TestACoinsRowIsToldAgain(t *testing.T) {
	for _, seed := range []int{0, 1, 2, 12345, 65536, 1103515245, 2147483646, 2147483647} {
		first, again := coins(seed, 500), coins(seed, 500)
		at, sum := big.NewInt(int64(seed)), big.NewInt(2147483648)
		for i := range first {
			at.Mod(at.Add(at.Mul(at, big.NewInt(1103515245)), big.NewInt(12345)), sum)
			if first[i] != again[i] || first[i] != int(at.Int64()/65536) || first[i] < 0 || first[i] > 32767 {
				t.Fatalf("coin %d of the row of %d: %d and %d", i, seed, first[i], again[i])
			}
		}
	}
}

func TestGoodName(t *testing.T) {
	for _, s := range []string{
		"a", "z", "A", "Z", "_", "__", "_a1", "a0", "Z9", "_9", "x_y", "abcdefghij0123456789",
		"_" + strings.Repeat("0", 19), strings.Repeat("Q", impl.MaxName),
	} {
		if !impl.GoodName(s) {
			t.Errorf("%q was refused", s)
		}
	}
	for _, s := range []string{
		"", "0", "9", "1a", "0_", "a b", " a", "a ", "a-b", "-a", "a.b", "a\n", "a\x00", "\x00", "\xff", "a\xff",
		"ä", "aé", "a\u0660", "\u212a", "@", "[", "`", "{", "a/", "a:", "^_", "a@", "a[", "a`", "a{",
		strings.Repeat("a", impl.MaxName+1), strings.Repeat("_", 1000), "abcdefghij01234567890",
		strings.Repeat("a", 19) + "é",
	} {
		if impl.GoodName(s) {
			t.Errorf("%q was taken", s)
		}
	}
	for b := range 256 {
		letter := b >= 'a' && b <= 'z' || b >= 'A' && b <= 'Z' || b == '_'
		digit := b >= '0' && b <= '9'
		if impl.GoodName(string([]byte{byte(b)})) != letter || impl.GoodName(string([]byte{'a', byte(b)})) != (letter || digit) {
			t.Errorf("byte %d", b)
		}
	}
}

// Promise 29: what is no fixed number gives 0, on either side.
func TestWhatIsNoFixedNumberGivesNothing(t *testing.T) {
	for _, bad := range notFixed() {
		for _, other := range append(fixedSpread(), notFixed()...) {
			for _, got := range []int{
				impl.FixMul(bad, other), impl.FixMul(other, bad),
				impl.FixDiv(bad, other), impl.FixDiv(other, bad),
				impl.LengthOf(bad, other), impl.LengthOf(other, bad),
				impl.AngleOf(bad, other), impl.AngleOf(other, bad),
			} {
				if got != 0 {
					t.Fatalf("%d with %d gives %d", bad, other, got)
				}
			}
		}
	}
}

// Promise 29: every function answers at any arguments, within its limits, and the same again.
func TestFixedAnswersAtAnyArguments(t *testing.T) {
	defer func() {
		if r := recover(); r != nil {
			t.Error("it panicked:", r)
		}
	}()
	ints := append(append(fixedSpread(), notFixed()...), math.MinInt32, math.MaxInt32, math.MaxUint32, -4096, 4096)
	for _, a := range ints {
		inLimits(t, a, impl.FixRoot(a), 0, impl.MaxFixed, impl.FixRoot(a))
		inLimits(t, a, impl.SinOf(a), -impl.One, impl.One, impl.SinOf(a))
		inLimits(t, a, impl.CosOf(a), -impl.One, impl.One, impl.CosOf(a))
		next, coin := impl.NextCoin(a)
		inLimits(t, a, next, 0, 2147483647, next)
		inLimits(t, a, coin, 0, 32767, next/65536)
		for _, b := range ints {
			inLimits(t, a, impl.FixMul(a, b), -impl.MaxFixed, impl.MaxFixed, impl.FixMul(a, b))
			inLimits(t, a, impl.FixDiv(a, b), -impl.MaxFixed, impl.MaxFixed, impl.FixDiv(a, b))
			inLimits(t, a, impl.LengthOf(a, b), 0, impl.MaxFixed, impl.LengthOf(a, b))
		}
		for _, b := range []int{0, a, -65536, math.MinInt, math.MaxInt} {
			inLimits(t, a, impl.AngleOf(a, b), 0, impl.Round-1, impl.AngleOf(a, b))
		}
	}
	for _, s := range []string{"", strings.Repeat("a", 1<<20), "\x00", "\xc3", string([]byte{255, 254})} {
		if impl.GoodName(s) {
			t.Errorf("a text of %d bytes was taken", len(s))
		}
	}
}

func inLimits(t *testing.T, at int, got int, least int, most int, again int) {
	t.Helper()
	if got < least || got > most || got != again {
		t.Errorf("at %d: %d, and again %d, of %d..%d", at, got, again, least, most)
	}
}

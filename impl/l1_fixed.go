package impl

import "math/bits"

const MaxName = 20
const MaxFixed = 1099511627776
const One = 65536
const Round = 4096

const quarterRound = Round / 4
const halfRound = Round / 2
const sineStep = 64
const maxSeed = 2147483647

// sineTable holds the sine of a quarter of the round, at every sineStep parts of it.
var sineTable = [17]int{
	0, 6424, 12785, 19024, 25080, 30893, 36410, 41576, 46341,
	50660, 54491, 57798, 60547, 62714, 64277, 65220, 65536,
}

// wide is a whole number from 0 on of 128 bits: squares of fixed numbers go beyond 64.
type wide struct {
	high uint64
	low  uint64
}

// GoodFixed tells whether x is a fixed number.
func GoodFixed(x int) bool {
	return -MaxFixed <= x && x <= MaxFixed
}

// FixMul multiplies fixed numbers; halves go to the greater.
func FixMul(a int, b int) int {
	if !GoodFixed(a) || !GoodFixed(b) || a == 0 || b == 0 {
		return 0
	}
	// Asked ahead of the product, because that may not fit an int.
	if sizeOf(a) > MaxFixed*One/sizeOf(b) {
		if (a < 0) != (b < 0) {
			return -MaxFixed
		}
		return MaxFixed
	}
	return divideNearest(a*b, One)
}

// FixDiv divides fixed numbers; halves go to the greater.
func FixDiv(a int, b int) int {
	if !GoodFixed(a) || !GoodFixed(b) || b == 0 {
		return 0
	}
	// The sign goes above, so that halves go to the greater whatever b's sign is.
	if b < 0 {
		a, b = -a, -b
	}
	return cutFixed(divideNearest(a*One, b))
}

// FixRoot gives the root of a fixed number from 0 on, as a fixed number.
func FixRoot(a int) int {
	if !GoodFixed(a) || a < 0 {
		return 0
	}
	return rootDown(wide{low: uint64(a) * One})
}

// SinOf gives the sine of any angle, as a fixed number.
func SinOf(angle int) int {
	part := aroundOnce(angle)
	if part >= halfRound {
		return -sineOfHalf(part - halfRound)
	}
	return sineOfHalf(part)
}

// CosOf gives the cosine of any angle, as a fixed number.
func CosOf(angle int) int {
	// Brought into the round first: the greatest angles leave no room for a quarter more.
	return SinOf(aroundOnce(angle) + quarterRound)
}

// LengthOf gives how far the place x, y is from 0, 0, cut to MaxFixed.
func LengthOf(x int, y int) int {
	if !GoodFixed(x) || !GoodFixed(y) {
		return 0
	}
	return rootDown(addWide(squareWide(sizeOf(x)), squareWide(sizeOf(y))))
}

// AngleOf gives the angle that points best from 0, 0 to the place x, y.
func AngleOf(x int, y int) int {
	if !GoodFixed(x) || !GoodFixed(y) || x == 0 && y == 0 {
		return 0
	}
	// Each angle is asked: the sine is straight between the table's places, so that roundings
	// alone may tell one angle from its neighbours.
	best, bestReach := 0, reachAt(x, y, 0)
	for angle := range Round {
		if reach := reachAt(x, y, angle); reach > bestReach {
			best, bestReach = angle, reach
		}
	}
	return best
}

// NextCoin gives the seed behind this one, and the coin of that next seed.
func NextCoin(seed int) (int, int) {
	if !goodSeed(seed) {
		return 0, 0
	}
	next := (seed*1103515245 + 12345) % (maxSeed + 1)
	return next, next / 65536
}

// GoodName tells whether s is a name.
func GoodName(s string) bool {
	if len(s) < 1 || len(s) > MaxName || isDigit(s[0]) {
		return false
	}
	for i := range len(s) {
		if !isLetter(s[i]) && !isDigit(s[i]) && s[i] != '_' {
			return false
		}
	}
	return true
}

func goodSeed(seed int) bool {
	return 0 <= seed && seed <= maxSeed
}

func isLetter(b byte) bool {
	return 'a' <= b && b <= 'z' || 'A' <= b && b <= 'Z'
}

func isDigit(b byte) bool {
	return '0' <= b && b <= '9'
}

// sizeOf gives x without its sign; x is not the least int, which has no such number.
func sizeOf(x int) int {
	return max(x, -x)
}

func cutFixed(x int) int {
	return max(-MaxFixed, min(x, MaxFixed))
}

// divideDown divides towards the lesser number; by is above 0.
func divideDown(n int, by int) int {
	quotient := n / by
	if n%by < 0 {
		quotient--
	}
	return quotient
}

// divideNearest divides to the nearest number, halves to the greater; by is above 0,
// and twice n leaves room for by in an int.
func divideNearest(n int, by int) int {
	return divideDown(2*n+by, 2*by)
}

// aroundOnce gives the angle in 0..Round - 1 that points the same way.
func aroundOnce(angle int) int {
	part := angle % Round
	if part < 0 {
		part += Round
	}
	return part
}

// sineOfHalf gives the sine of a part of the first half of the round.
func sineOfHalf(part int) int {
	if part > quarterRound {
		part = halfRound - part
	}
	step, rest := part/sineStep, part%sineStep
	// On a place of the table there is nothing to blend, and behind the last none to blend with.
	if rest == 0 {
		return sineTable[step]
	}
	return (sineTable[step]*(sineStep-rest) + sineTable[step+1]*rest + sineStep/2) / sineStep
}

// reachAt tells how far the place x, y lies in the direction of an angle, in parts of One.
func reachAt(x int, y int, angle int) int {
	return x*CosOf(angle) + y*SinOf(angle)
}

// squareWide gives the square of a number from 0 on.
func squareWide(n int) wide {
	high, low := bits.Mul64(uint64(n), uint64(n))
	return wide{high, low}
}

func addWide(a wide, b wide) wide {
	low, carry := bits.Add64(a.low, b.low, 0)
	high, _ := bits.Add64(a.high, b.high, carry)
	return wide{high, low}
}

func lessWide(a wide, b wide) bool {
	return a.high < b.high || a.high == b.high && a.low < b.low
}

// rootDown gives the greatest number in 0..MaxFixed whose square is at most w.
func rootDown(w wide) int {
	if !lessWide(w, squareWide(MaxFixed)) {
		return MaxFixed
	}
	root := 0
	for bit := MaxFixed / 2; bit > 0; bit /= 2 {
		if !lessWide(w, squareWide(root+bit)) {
			root += bit
		}
	}
	return root
}

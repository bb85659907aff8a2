package tests

import (
	"cmp"
	"fmt"
	"math"
	"math/big"
	"slices"
	"strconv"
	"strings"
	"testing"

	"loop.example/g00064/impl"
)

const mostThings = 40
const mostBits = 4000
const mostWidth = 32
const mostTold = 63
const lastThingId = 255
const lastThingPlace = 1023
const lastThingHp = 127
const farInterest = 2000

// bitsOf gives the bits that are written as digits, in which blanks don't count.
func bitsOf(digits string) impl.Bits {
	digits = strings.ReplaceAll(digits, " ", "")
	b := impl.Bits{Size: len(digits)}
	for len(digits)%8 > 0 {
		digits += "0"
	}
	for ; digits != ""; digits = digits[8:] {
		whole, _ := strconv.ParseUint(digits[:8], 2, 8)
		b.Data = append(b.Data, byte(whole))
	}
	return b
}

// digitsOf writes good bits as digits.
func digitsOf(b impl.Bits) string {
	digits := ""
	for _, whole := range b.Data {
		digits += fmt.Sprintf("%08b", whole)
	}
	return digits[:b.Size]
}

// inBits writes a number in so many digits.
func inBits(value int, many int) string {
	if many == 0 {
		return ""
	}
	return fmt.Sprintf("%0*b", many, value)
}

func digitsByCoins(next func(int) int, many int) string { return string(coinBytes(next, many, "01")) }

func sentThing(id int, x int, y int, hp int) impl.Thing {
	return impl.Thing{Id: id, X: x, Y: y, Hp: hp}
}

// thingsOf reads things out of words like `7=1,2,3`: the Id, X, Y and Hp.
func thingsOf(words string) []impl.Thing {
	var out []impl.Thing
	for _, word := range strings.Fields(words) {
		var t impl.Thing
		if _, err := fmt.Sscanf(word, "%d=%d,%d,%d", &t.Id, &t.X, &t.Y, &t.Hp); err != nil {
			panic(word)
		}
		out = append(out, t)
	}
	return out
}

// thingRow gives so many things, their Ids from one on by steps.
func thingRow(many int, from int, step int) []impl.Thing {
	var out []impl.Thing
	for i := range many {
		out = append(out, sentThing(from+step*i, i*25, lastThingPlace-i*25, i*3))
	}
	return out
}

// thingNumbers gives the places of the four numbers of a thing.
func thingNumbers(t *impl.Thing) []*int { return []*int{&t.Id, &t.X, &t.Y, &t.Hp} }

func withThing(l []impl.Thing, at int, change func(*impl.Thing)) []impl.Thing {
	out := slices.Clone(l)
	change(&out[at])
	return out
}

func slowGoodBits(b impl.Bits) bool {
	if !within(0, b.Size, 4000) {
		return false
	}
	bytes := b.Size / 8
	if b.Size%8 > 0 {
		bytes++
	}
	return len(b.Data) == bytes && !strings.Contains(digitsOf(impl.Bits{Size: 8 * bytes, Data: b.Data})[b.Size:], "1")
}

func slowPutBits(b impl.Bits, value int, many int) (impl.Bits, bool) {
	if !slowGoodBits(b) || !within(0, many, 32) || value < 0 || big.NewInt(int64(value)).BitLen() > many || b.Size+many > 4000 {
		return impl.Bits{}, false
	}
	return bitsOf(digitsOf(b) + inBits(value, many)), true
}

func slowTakeBits(b impl.Bits, at int, many int) (int, bool) {
	if !slowGoodBits(b) || !within(0, many, 32) || !within(0, at, b.Size) || at+many > b.Size {
		return 0, false
	}
	value, _ := strconv.ParseUint("0"+digitsOf(b)[at:at+many], 2, 64)
	return int(value), true
}

func slowGoodThings(l []impl.Thing) bool {
	good := len(l) <= 40
	for i, t := range l[:min(len(l), 50)] {
		good = good && within(0, t.Id, 255) && within(0, t.X, 1023) && within(0, t.Y, 1023) && within(0, t.Hp, 127)
		good = good && (i == 0 || l[i-1].Id < t.Id)
	}
	return good
}

func thingsById(l []impl.Thing) map[int]impl.Thing {
	out := map[int]impl.Thing{}
	for _, t := range l {
		out[t.Id] = t
	}
	return out
}

// fieldDigits writes a field of a thing as a delta tells it.
func fieldDigits(told bool, value int, many int) string {
	if !told {
		return "0"
	}
	return "1" + inBits(value, many)
}

// slowDelta gives the digits of a delta, and of how many Ids it tells.
func slowDelta(base []impl.Thing, now []impl.Thing) (string, int) {
	before, after := thingsById(base), thingsById(now)
	digits, many := "", 0
	for id := range 256 {
		was, had := before[id]
		is, has := after[id]
		switch {
		case had && !has:
			digits += inBits(id, 8) + "0"
		case has && (!had || is != was):
			digits += inBits(id, 8) + "1" + fieldDigits(!had || is.X != was.X, is.X, 10) +
				fieldDigits(!had || is.Y != was.Y, is.Y, 10) + fieldDigits(!had || is.Hp != was.Hp, is.Hp, 7)
		default:
			continue
		}
		many++
	}
	return inBits(many, 6) + digits, many
}

func slowDeltaOf(base []impl.Thing, now []impl.Thing) (impl.Bits, bool) {
	if !slowGoodThings(base) || !slowGoodThings(now) {
		return impl.Bits{}, false
	}
	digits, many := slowDelta(base, now)
	if many > 63 || len(digits) > 4000 {
		return impl.Bits{}, false
	}
	return bitsOf(digits), true
}

// takenDigits cuts a number of so many digits off the front; false where they lack.
func takenDigits(digits *string, many int) (int, bool) {
	if len(*digits) < many {
		return 0, false
	}
	value, _ := strconv.ParseUint((*digits)[:many], 2, 64)
	*digits = (*digits)[many:]
	return int(value), true
}

// slowTellOne does what the front of a delta tells of one Id; it gives the Id, and whether that may be told.
func slowTellOne(digits *string, things map[int]impl.Thing) (int, bool) {
	id, first := takenDigits(digits, 8)
	stays, second := takenDigits(digits, 1)
	t, had := things[id]
	if !first || !second || stays == 0 {
		delete(things, id)
		return id, first && second && had
	}
	t.Id = id
	toldOnes := 0
	for i, many := range []int{10, 10, 7} {
		told, there := takenDigits(digits, 1)
		if !there || told == 0 && !had {
			return id, false
		}
		if told == 0 {
			continue
		}
		value, there := takenDigits(digits, many)
		field := thingNumbers(&t)[i+1]
		if !there || had && *field == value {
			return id, false
		}
		*field = value
		toldOnes++
	}
	things[id] = t
	return id, toldOnes > 0
}

func slowApplyDelta(base []impl.Thing, b impl.Bits) ([]impl.Thing, bool) {
	if !slowGoodThings(base) || !slowGoodBits(b) {
		return nil, false
	}
	things, digits := thingsById(base), digitsOf(b)
	many, there := takenDigits(&digits, 6)
	if !there {
		return nil, false
	}
	last := -1
	for range many {
		id, may := slowTellOne(&digits, things)
		if !may || id <= last {
			return nil, false
		}
		last = id
	}
	if digits != "" || len(things) > 40 {
		return nil, false
	}
	var out []impl.Thing
	for id := range 256 {
		if t, has := things[id]; has {
			out = append(out, t)
		}
	}
	return out, true
}

// slowNearer tells whether a thing is ahead of another one, seen from a place.
func slowNearer(a impl.Thing, b impl.Thing, x int, y int) bool {
	far, other := slowSquare(a, x, y), slowSquare(b, x, y)
	return far < other || far == other && a.Id < b.Id
}

func slowSquare(t impl.Thing, x int, y int) int { return (t.X-x)*(t.X-x) + (t.Y-y)*(t.Y-y) }

// slowInterest counts for each thing how many are ahead of it.
func slowInterest(l []impl.Thing, x int, y int, far int, most int) ([]impl.Thing, bool) {
	if !slowGoodThings(l) || !within(0, x, 1023) || !within(0, y, 1023) || !within(0, far, 2000) || !within(0, most, 40) {
		return nil, false
	}
	var out []impl.Thing
	for _, t := range l {
		ahead := 0
		for _, other := range l {
			if slowNearer(other, t, x, y) {
				ahead++
			}
		}
		if slowSquare(t, x, y) <= far*far && ahead < most {
			out = append(out, t)
		}
	}
	return out, true
}

func slowSeenAgo(history [][]impl.Thing, ago int, id int) (impl.Thing, bool) {
	if !within(1, len(history), 40) || !within(0, ago, len(history)-1) || !slowGoodHistory(history) {
		return impl.Thing{}, false
	}
	backwards := slices.Clone(history)
	slices.Reverse(backwards)
	t, has := thingsById(backwards[ago])[id]
	return t, has
}

func slowGoodHistory(history [][]impl.Thing) bool {
	return !slices.ContainsFunc(history, func(l []impl.Thing) bool { return !slowGoodThings(l) })
}

func wantGoodBits(t *testing.T, what string, b impl.Bits, want bool) {
	t.Helper()
	if got := purely(t, "GoodBits", impl.GoodBits, b); got[0] != want || slowGoodBits(b) != want {
		t.Errorf("%s: GoodBits %v = %v, want %v", what, b, got, want)
	}
}

func wantPutBits(t *testing.T, what string, b impl.Bits, value int, many int, want impl.Bits, good bool) {
	t.Helper()
	if got := purely(t, "PutBits", impl.PutBits, b, value, many); !alike(got[0], want) || got[1] != good {
		t.Errorf("%s: PutBits %v, %d, %d = %v, want %v, %v", what, b, value, many, got, want, good)
	}
}

func wantSlowPutBits(t *testing.T, what string, b impl.Bits, value int, many int) {
	t.Helper()
	want, good := slowPutBits(b, value, many)
	wantPutBits(t, what, b, value, many, want, good)
}

func wantTakeBits(t *testing.T, what string, b impl.Bits, at int, many int, want int, good bool) {
	t.Helper()
	if got := purely(t, "TakeBits", impl.TakeBits, b, at, many); got[0] != want || got[1] != good {
		t.Errorf("%s: TakeBits %v, %d, %d = %v, want %d, %v", what, b, at, many, got, want, good)
	}
}

func wantSlowTakeBits(t *testing.T, what string, b impl.Bits, at int, many int) {
	t.Helper()
	want, good := slowTakeBits(b, at, many)
	wantTakeBits(t, what, b, at, many, want, good)
}

func wantGoodThings(t *testing.T, what string, l []impl.Thing, want bool) {
	t.Helper()
	if got := purely(t, "GoodThings", impl.GoodThings, l); got[0] != want || slowGoodThings(l) != want {
		t.Errorf("%s: GoodThings %v = %v, want %v", what, l, got, want)
	}
}

func wantDelta(t *testing.T, what string, base []impl.Thing, now []impl.Thing, want impl.Bits, good bool) {
	t.Helper()
	if got := purely(t, "DeltaOf", impl.DeltaOf, base, now); !alike(got[0], want) || got[1] != good {
		t.Errorf("%s: DeltaOf %v, %v = %v, want %v, %v", what, base, now, got, want, good)
	}
}

// wantSlowDelta asks for a delta, and where there is one that it comes back.
func wantSlowDelta(t *testing.T, what string, base []impl.Thing, now []impl.Thing) {
	t.Helper()
	want, good := slowDeltaOf(base, now)
	wantDelta(t, what, base, now, want, good)
	if good {
		wantApplied(t, what, base, want, now, true)
	}
}

func wantApplied(t *testing.T, what string, base []impl.Thing, b impl.Bits, want []impl.Thing, good bool) {
	t.Helper()
	if got := purely(t, "ApplyDelta", impl.ApplyDelta, base, b); !alike(got[0], want) || got[1] != good {
		t.Errorf("%s: ApplyDelta %v, %v = %v, want %v, %v", what, base, b, got, want, good)
	}
}

// wantSlowApplied asks for what is applied, and tells whether it was a delta.
func wantSlowApplied(t *testing.T, what string, base []impl.Thing, b impl.Bits) bool {
	t.Helper()
	want, good := slowApplyDelta(base, b)
	wantApplied(t, what, base, b, want, good)
	return good
}

func wantInterest(t *testing.T, what string, l []impl.Thing, at [4]int, want []impl.Thing, good bool) {
	t.Helper()
	if got := purely(t, "Interest", impl.Interest, l, at[0], at[1], at[2], at[3]); !alike(got[0], want) || got[1] != good {
		t.Errorf("%s: Interest %v, %v = %v, want %v, %v", what, l, at, got, want, good)
	}
}

func wantSlowInterest(t *testing.T, what string, l []impl.Thing, at [4]int) {
	t.Helper()
	want, good := slowInterest(l, at[0], at[1], at[2], at[3])
	wantInterest(t, what, l, at, want, good)
}

func wantSeenAgo(t *testing.T, what string, history [][]impl.Thing, ago int, id int, want impl.Thing, good bool) {
	t.Helper()
	if got := purely(t, "SeenAgo", impl.SeenAgo, history, ago, id); got[0] != want || got[1] != good {
		t.Errorf("%s: SeenAgo %v, %d, %d = %v, want %v, %v", what, history, ago, id, got, want, good)
	}
}

func wantSlowSeenAgo(t *testing.T, what string, history [][]impl.Thing, ago int, id int) {
	t.Helper()
	want, good := slowSeenAgo(history, ago, id)
	wantSeenAgo(t, what, history, ago, id, want, good)
}

func TestWireConstants(t *testing.T) {
	if impl.MaxThings != mostThings || impl.MaxBits != mostBits {
		t.Error(impl.MaxThings, impl.MaxBits)
	}
}

// bitSizes holds Sizes on both sides of each limit, and such as a smaller number would cut to good ones.
func bitSizes() []int {
	return append(farNumbers(), -4000, -9, -8, -7, -1, 0, 1, 2, 6, 7, 8, 9, 15, 16, 17, 31, 32, 33, 100, 255, 256, 257,
		mostBits-9, mostBits-8, mostBits-7, mostBits-1, mostBits, mostBits+1, mostBits+7, mostBits+8, mostBits+9, 65536, 1<<32, 1<<32+8)
}

func TestGoodBitsBySizeAndData(t *testing.T) {
	goods := 0
	for _, size := range bitSizes() {
		for _, many := range []int{0, 1, 2, 3, 4, 5, 12, 13, 14, 31, 32, 33, 499, 500, 501} {
			for _, first := range []byte{0, 128, 255} {
				b := impl.Bits{Size: size, Data: make([]byte, many)}
				if many > 0 && size > 7 {
					b.Data[0] = first
				}
				good := slowGoodBits(b)
				wantGoodBits(t, "so many bytes", b, good)
				if good {
					goods++
				}
				wantSlowPutBits(t, "so many bytes", b, 5, 3)
				wantSlowTakeBits(t, "so many bytes", b, 0, 1)
				wantSlowApplied(t, "so many bytes", nil, b)
			}
		}
		wantGoodBits(t, "no Data", impl.Bits{Size: size}, size == 0)
	}
	if goods < 40 {
		t.Error(goods)
	}
	for _, size := range []int{1, 7, 8, 9, 100, mostBits - 1, mostBits} {
		b := bitsOf(strings.Repeat("1", size))
		wantGoodBits(t, "just as many bytes", b, true)
		wantGoodBits(t, "one more", impl.Bits{Size: size, Data: append(slices.Clone(b.Data), 0)}, false)
		wantGoodBits(t, "one fewer", impl.Bits{Size: size, Data: b.Data[:len(b.Data)-1]}, false)
	}
	wantGoodBits(t, "one bit more than may be", bitsOf(strings.Repeat("0", mostBits+1)), false)
	wantGoodBits(t, "eight more than may be", bitsOf(strings.Repeat("0", mostBits+8)), false)
}

// Each bit is set by itself: within Size it may be, behind it it may not.
func TestGoodBitsByEachBit(t *testing.T) {
	for _, size := range []int{1, 2, 3, 4, 5, 6, 7, 8, 9, 10, 15, 16, 17, 23, 33, mostBits - 9, mostBits - 7, mostBits - 1, mostBits} {
		room := bitsOf(strings.Repeat("0", size))
		for k := max(0, 8*len(room.Data)-20); k < 8*len(room.Data); k++ {
			b := impl.Bits{Size: size, Data: slices.Clone(room.Data)}
			b.Data[k/8] = 128 >> (k % 8)
			wantGoodBits(t, "one bit", b, k < size)
			wantSlowPutBits(t, "one bit", b, 1, 1)
			wantSlowPutBits(t, "one bit", b, 0, 0)
			wantSlowTakeBits(t, "one bit", b, 0, 1)
			wantSlowTakeBits(t, "one bit", b, 0, 0)
			wantSlowApplied(t, "one bit", nil, b)
			if k < size {
				wantTakeBits(t, "the bit", b, k, 1, 1, true)
			}
		}
	}
}

func TestBitsTold(t *testing.T) {
	for _, c := range []struct {
		what   string
		before string
		value  int
		many   int
		size   int
		data   []byte
	}{
		{"nothing", "", 0, 0, 0, nil},
		{"the first", "", 5, 3, 3, []byte{160}},
		{"a nought", "", 0, 1, 1, []byte{0}},
		{"a one", "", 1, 1, 1, []byte{128}},
		{"noughts ahead", "", 1, 8, 8, []byte{1}},
		{"behind others", "101", 3, 2, 5, []byte{184}},
		{"to the end of a byte", "101", 21, 5, 8, []byte{181}},
		{"over a byte", "101", 21, 6, 9, []byte{170, 128}},
		{"noughts over a byte", "101", 0, 6, 9, []byte{160, 0}},
		{"in the second byte", "11111111", 1, 2, 10, []byte{255, 64}},
		{"nothing behind others", "101", 0, 0, 3, []byte{160}},
		{"as many as may be", "", 1<<32 - 1, 32, 32, []byte{255, 255, 255, 255}},
		{"the highest first", "", 0x01020304, 32, 32, []byte{1, 2, 3, 4}},
		{"over five bytes", "0000001", 0x80000001, 32, 39, []byte{3, 0, 0, 0, 2}},
		{"from one bit on", "1", 0x40000000, 32, 33, []byte{160, 0, 0, 0, 0}},
	} {
		b := bitsOf(c.before)
		wantPutBits(t, c.what, b, c.value, c.many, impl.Bits{Size: c.size, Data: c.data}, true)
		wantSlowPutBits(t, c.what, b, c.value, c.many)
		wantTakeBits(t, c.what, impl.Bits{Size: c.size, Data: c.data}, b.Size, c.many, c.value, true)
	}
}

// widthsAsked holds widths on both sides of each limit.
func widthsAsked() []int {
	return append(farNumbers(), -256, -33, -32, -8, -1, 0, 1, 2, 7, 8, 9, 10, 15, 16, 17, 24, 30, 31, mostWidth, 33, 34, 62, 63, 64, 65, 128, 256, 257, 1<<32+1)
}

// valuesAsked holds numbers at the limits of so many bits, and some within.
func valuesAsked(many int) []int {
	out := append(farNumbers(), -1<<32, -256, -2, -1, 0, 1, 2, 3, 0x5555, 0xaaaaaaaa, 1<<31, 1<<32-1, 1<<32, 1<<32+1, 1<<62)
	if within(0, many, 62) {
		whole := 1 << many
		out = append(out, whole/2-1, whole/2, whole-2, whole-1, whole, whole+1, -whole)
	}
	return out
}

func TestPutBitsOfEachWidth(t *testing.T) {
	beforeAll := []string{"", "1", "0", "1010101", "11111111", "000000001", "1011001110001111"}
	for _, many := range widthsAsked() {
		for _, value := range valuesAsked(many) {
			for _, before := range beforeAll {
				wantSlowPutBits(t, "a width", bitsOf(before), value, many)
			}
		}
	}
	for _, many := range counted(mostWidth + 1) {
		wantPutBits(t, "the greatest", bitsOf(""), 1<<many-1, many, bitsOf(strings.Repeat("1", many)), true)
		wantPutBits(t, "one greater", bitsOf(""), 1<<many, many, impl.Bits{}, false)
		wantPutBits(t, "below 0", bitsOf(""), -1, many, impl.Bits{}, false)
		wantPutBits(t, "0", bitsOf("1"), 0, many, bitsOf("1"+strings.Repeat("0", many)), true)
	}
}

// Numbers are put from each place in a byte on, and taken again from there.
func TestBitsFromEachPlaceInAByte(t *testing.T) {
	for ahead := range 18 {
		for many := range mostWidth + 1 {
			for _, of := range []string{"0", "1", "10", "110"} {
				before := strings.Repeat(of, ahead)[:ahead]
				for _, value := range valuesAsked(many) {
					if value < 0 || value >= 1<<many {
						continue
					}
					want := bitsOf(before + inBits(value, many))
					wantPutBits(t, "from a place on", bitsOf(before), value, many, want, true)
					got, good := impl.TakeBits(want, ahead, many)
					if got != value || !good {
						t.Error(ahead, many, value, got, good)
					}
				}
			}
		}
	}
}

// What comes to just as many bits as may be is put, and what comes to one more is not.
func TestPutBitsToTheEnd(t *testing.T) {
	for _, of := range []string{"0", "1", "10"} {
		for many := range mostWidth + 1 {
			for _, more := range []int{-9, -8, -1, 0, 1, 2, 7, 8, 9} {
				size := mostBits - many + more
				if size > mostBits {
					continue
				}
				before := strings.Repeat(of, size)[:size]
				value := 1<<many - 1
				if more > 0 {
					wantPutBits(t, "too many", bitsOf(before), value, many, impl.Bits{}, false)
					continue
				}
				wantPutBits(t, "to the end", bitsOf(before), value, many, bitsOf(before+strings.Repeat("1", many)), true)
			}
		}
	}
}

func TestTakeBitsAtEachPlace(t *testing.T) {
	next := coinRow(2303)
	for _, size := range []int{0, 1, 7, 8, 9, 16, 31, 32, 33, 40, 41, 70} {
		b := bitsOf(digitsByCoins(next, size))
		for _, many := range widthsAsked() {
			for at := -34; at <= size+34; at++ {
				wantSlowTakeBits(t, "a place", b, at, many)
			}
			for _, at := range farNumbers() {
				wantTakeBits(t, "a far place", b, at, many, 0, false)
			}
		}
		wantTakeBits(t, "none at the end", b, size, 0, 0, true)
		wantTakeBits(t, "none behind the end", b, size+1, 0, 0, false)
		wantTakeBits(t, "none ahead of all", b, -1, 0, 0, false)
		wantTakeBits(t, "one at the end", b, size, 1, 0, false)
	}
	b := bitsOf(digitsByCoins(next, mostBits))
	for at := mostBits - 35; at < mostBits+3; at++ {
		for _, many := range []int{0, 1, 2, 8, 9, 31, 32, 33} {
			wantSlowTakeBits(t, "at the end of as many as may be", b, at, many)
		}
	}
}

func TestTakeBitsTold(t *testing.T) {
	b := impl.Bits{Size: 44, Data: []byte{0xa5, 0x0f, 0xff, 0x00, 0x81, 0x70}}
	for _, c := range []struct{ at, many, want int }{
		{0, 0, 0}, {0, 1, 1}, {1, 1, 0}, {0, 8, 0xa5}, {4, 8, 0x50}, {1, 3, 2}, {7, 1, 1}, {8, 1, 0},
		{12, 12, 0xfff}, {0, 32, 0xa50fff00}, {8, 32, 0x0fff0081}, {12, 32, 0xfff00817}, {4, 32, 0x50fff008},
		{11, 13, 0xfff}, {39, 5, 0x17}, {43, 1, 1}, {44, 0, 0}, {15, 18, 0x3fe01},
	} {
		wantTakeBits(t, "told", b, c.at, c.many, c.want, true)
	}
	wantTakeBits(t, "one lacks", b, 13, 32, 0, false)
	wantTakeBits(t, "one lacks", b, 44, 1, 0, false)
	wantTakeBits(t, "all lack", b, 60, 1, 0, false)
}

// Promise 23: a row of numbers that is put comes back, from the front and from the end.
func TestBitsComeBack(t *testing.T) {
	filled := 0
	for seed := range 200 {
		next := coinRow(seed + 23000)
		var b impl.Bits
		var row [][3]int
		digits := ""
		for range 20 + next(400) {
			many := next(mostWidth + 1)
			value := (next(4096)<<24 | next(4096)<<12 | next(4096)) & (1<<many - 1)
			then, good := impl.PutBits(b, value, many)
			if good != (len(digits)+many <= mostBits) {
				t.Fatal(seed, b.Size, many, good)
			}
			if !good {
				filled++
				continue
			}
			row = append(row, [3]int{b.Size, many, value})
			digits += inBits(value, many)
			b = then
		}
		if !impl.GoodBits(b) || !alike(b, bitsOf(digits)) {
			t.Fatal(seed, b, digits)
		}
		for _, told := range row {
			if value, good := impl.TakeBits(b, told[0], told[1]); value != told[2] || !good {
				t.Fatal(seed, told, value, good)
			}
		}
		slices.Reverse(row)
		for _, told := range row {
			if value, good := impl.TakeBits(b, told[0], told[1]); value != told[2] || !good {
				t.Fatal(seed, told, value, good)
			}
		}
	}
	if filled < 100 {
		t.Error(filled)
	}
}

// A number in one piece is the same as in two.
func TestNumbersPutInPieces(t *testing.T) {
	for seed := range 400 {
		next := coinRow(seed + 23100)
		b := bitsOf(digitsByCoins(next, next(40)))
		many := next(mostWidth + 1)
		value := (next(4096)<<24 | next(4096)<<12 | next(4096)) & (1<<many - 1)
		whole, _ := impl.PutBits(b, value, many)
		for cut := range many + 1 {
			half, first := impl.PutBits(b, value>>(many-cut), cut)
			rest, second := impl.PutBits(half, value&(1<<(many-cut)-1), many-cut)
			if !first || !second || !alike(rest, whole) {
				t.Fatal(b, value, many, cut, half, rest, whole)
			}
		}
	}
}

func goodThingLists() map[string][]impl.Thing {
	return map[string][]impl.Thing{
		"none":                       nil,
		"one":                        thingsOf("7=1,2,3"),
		"all noughts":                thingsOf("0=0,0,0"),
		"the greatest numbers":       thingsOf("255=1023,1023,127"),
		"the least and the greatest": thingsOf("0=0,1023,0 255=1023,0,127"),
		"one beside the other":       thingsOf("6=5,5,5 7=5,5,5"),
		"three":                      thingsOf("1=9,8,7 50=1,1,1 254=512,511,64"),
		"as many as may be":          thingRow(mostThings, 0, 1),
		"as many, at the end":        thingRow(mostThings, lastThingId+1-mostThings, 1),
		"as many, spread":            thingRow(mostThings, 0, 6),
		"one fewer":                  thingRow(mostThings-1, 3, 5),
	}
}

func badThingLists() map[string][]impl.Thing {
	lastBad := thingRow(mostThings, 0, 1)
	lastBad[mostThings-1].Hp = lastThingHp + 1
	return map[string][]impl.Thing{
		"one too many":          thingRow(mostThings+1, 0, 1),
		"far too many":          thingRow(200, 0, 1),
		"all Ids":               thingRow(lastThingId+1, 0, 1),
		"more than Ids":         make([]impl.Thing, 300),
		"an Id below 0":         thingsOf("-1=0,0,0"),
		"an Id above":           thingsOf("256=0,0,0"),
		"the last Id above":     thingsOf("1=0,0,0 256=0,0,0"),
		"X below 0":             thingsOf("7=-1,2,3"),
		"X above":               thingsOf("7=1024,2,3"),
		"Y below 0":             thingsOf("7=1,-1,3"),
		"Y above":               thingsOf("7=1,1024,3"),
		"Hp below 0":            thingsOf("7=1,2,-1"),
		"Hp above":              thingsOf("7=1,2,128"),
		"the last of all":       lastBad,
		"twice the same":        thingsOf("7=1,2,3 7=1,2,3"),
		"twice the same Id":     thingsOf("7=1,2,3 7=4,5,6"),
		"twice the Id 0":        thingsOf("0=0,0,0 0=0,0,0"),
		"twice the same, apart": thingsOf("7=1,2,3 9=1,2,3 7=1,2,3"),
		"Ids that fall":         thingsOf("9=1,2,3 7=1,2,3"),
		"the last Id falls":     thingsOf("7=1,2,3 9=1,2,3 8=1,2,3"),
	}
}

func TestGoodThings(t *testing.T) {
	for what, l := range goodThingLists() {
		wantGoodThings(t, what, l, true)
		for other, now := range goodThingLists() {
			wantSlowDelta(t, what+", "+other, l, now)
		}
		wantDelta(t, what+", to itself", l, l, bitsOf("000000"), true)
	}
	for what, l := range badThingLists() {
		wantGoodThings(t, what, l, false)
		for _, good := range goodThingLists() {
			wantDelta(t, what, l, good, impl.Bits{}, false)
			wantDelta(t, what, good, l, impl.Bits{}, false)
			wantSeenAgo(t, what, [][]impl.Thing{good, l}, 1, 7, impl.Thing{}, false)
			wantSeenAgo(t, what, [][]impl.Thing{l, good}, 0, 7, impl.Thing{}, false)
		}
		wantDelta(t, what, l, l, impl.Bits{}, false)
		wantApplied(t, what, l, bitsOf("000000"), nil, false)
		wantApplied(t, what, l, bitsOf("000001 00000111 0"), nil, false)
		wantInterest(t, what, l, [4]int{5, 5, 2000, 40}, nil, false)
		wantInterest(t, what, l, [4]int{5, 5, 0, 0}, nil, false)
		wantSeenAgo(t, what, [][]impl.Thing{l}, 0, 7, impl.Thing{}, false)
	}
}

// thingNumbersAsked holds numbers on both sides of the limits of all fields.
func thingNumbersAsked() []int {
	return append(farNumbers(), -1024, -128, -1, 0, 1, 6, 7, 8, 9, 126, lastThingHp, 128, 200, 254, lastThingId, 256, 263, 511, 512, 1022, lastThingPlace, 1024, 1025, 1031, 2048, 1<<32, 1<<32+7)
}

// One number of good things is made another, at each place.
func TestGoodThingsWithOneNumberChanged(t *testing.T) {
	base := thingsOf("7=1,2,3 9=4,5,6 200=7,8,9")
	for at := range base {
		for field := range 4 {
			for _, number := range thingNumbersAsked() {
				l := withThing(base, at, func(one *impl.Thing) { *thingNumbers(one)[field] = number })
				wantGoodThings(t, "a number", l, slowGoodThings(l))
				wantSlowDelta(t, "a number", base, l)
				wantSlowDelta(t, "a number", l, base)
				wantSlowApplied(t, "a number", l, bitsOf("000001 00001001 1 1 0000011111 0 0"))
				wantSlowInterest(t, "a number", l, [4]int{4, 5, 10, 2})
				wantSlowSeenAgo(t, "a number", [][]impl.Thing{base, l, base}, 1, number)
				wantSlowSeenAgo(t, "a number", [][]impl.Thing{base, l, base}, 2, 9)
			}
		}
	}
}

func deltasTold() []struct{ what, base, now, digits string } {
	return []struct{ what, base, now, digits string }{
		{"nothing to nothing", "", "", "000000"},
		{"to itself", "7=1,2,3 9=4,5,6", "7=1,2,3 9=4,5,6", "000000"},
		{"one new", "", "7=1,2,3", "000001 00000111 1 1 0000000001 1 0000000010 1 0000011"},
		{"one new, all noughts", "", "0=0,0,0", "000001 00000000 1 1 0000000000 1 0000000000 1 0000000"},
		{"one new, the greatest", "", "255=1023,1023,127", "000001 11111111 1 1 1111111111 1 1111111111 1 1111111"},
		{"one gone", "7=1,2,3", "", "000001 00000111 0"},
		{"all gone", "0=1,2,3 255=4,5,6", "", "000010 00000000 0 11111111 0"},
		{"X alone", "7=1,2,3", "7=2,2,3", "000001 00000111 1 1 0000000010 0 0"},
		{"Y alone", "7=1,2,3", "7=1,1,3", "000001 00000111 1 0 1 0000000001 0"},
		{"Hp alone", "7=1,2,3", "7=1,2,4", "000001 00000111 1 0 0 1 0000100"},
		{"X and Y", "7=1,2,3", "7=0,1023,3", "000001 00000111 1 1 0000000000 1 1111111111 0"},
		{"X and Hp", "7=1,2,3", "7=512,2,64", "000001 00000111 1 1 1000000000 0 1 1000000"},
		{"Y and Hp", "7=1,2,3", "7=1,3,0", "000001 00000111 1 0 1 0000000011 1 0000000"},
		{"all three", "7=1,2,3", "7=2,3,1", "000001 00000111 1 1 0000000010 1 0000000011 1 0000001"},
		{"a new one between", "3=1,1,1 9=1,1,1", "3=1,1,1 5=1,1,1 9=1,1,1", "000001 00000101 1 1 0000000001 1 0000000001 1 0000001"},
		{"a new one ahead", "3=1,1,1", "2=0,0,5 3=1,1,1", "000001 00000010 1 1 0000000000 1 0000000000 1 0000101"},
		{"a new one behind", "3=1,1,1", "3=1,1,1 4=0,0,5", "000001 00000100 1 1 0000000000 1 0000000000 1 0000101"},
		{"another Id", "3=1,1,1", "4=1,1,1", "000010 00000011 0 00000100 1 1 0000000001 1 0000000001 1 0000001"},
		{"gone, changed and new", "3=1,1,1 5=2,2,2 7=3,3,3", "4=9,9,9 5=2,2,1 7=3,3,3",
			"000011 00000011 0 00000100 1 1 0000001001 1 0000001001 1 0001001 00000101 1 0 0 1 0000001"},
	}
}

func TestDeltasTold(t *testing.T) {
	for _, c := range deltasTold() {
		base, now := thingsOf(c.base), thingsOf(c.now)
		wantDelta(t, c.what, base, now, bitsOf(c.digits), true)
		wantApplied(t, c.what, base, bitsOf(c.digits), now, true)
		wantSlowDelta(t, c.what, base, now)
		wantSlowDelta(t, c.what+", back", now, base)
	}
}

// Promise 23: what is new, changed, the same and gone, in all ways for three things.
func TestDeltasOfEachWay(t *testing.T) {
	rows := []string{"", "=4,5,6", "=4,5,7", "=4,0,6", "=1023,5,6", "=0,0,6", "=0,5,0", "=4,0,0", "=1,2,3"}
	list := func(kinds int) []impl.Thing {
		words := ""
		for _, id := range []string{"0", "7", "255"} {
			if row := rows[kinds%len(rows)]; row != "" {
				words += " " + id + row
			}
			kinds /= len(rows)
		}
		return thingsOf(words)
	}
	all := len(rows) * len(rows) * len(rows)
	for kinds := range all {
		for _, step := range []int{0, 1, 10, 91, 82, 333, all - 1} {
			wantSlowDelta(t, "each way", list(kinds), list((kinds+step)%all))
		}
	}
}

// As many Ids as six bits can tell, and one more.
func TestDeltasOfAsManyIdsAsMayBe(t *testing.T) {
	for _, c := range []struct {
		what string
		base []impl.Thing
		now  []impl.Thing
		many int
	}{
		{"62", thingRow(40, 0, 1), thingRow(22, 100, 2), 62},
		{"63 by fewer new", thingRow(40, 0, 1), thingRow(23, 100, 2), 63},
		{"64 by fewer new", thingRow(40, 0, 1), thingRow(24, 100, 2), 64},
		{"63 by fewer gone", thingRow(23, 200, 2), thingRow(40, 1, 3), 63},
		{"64 by fewer gone", thingRow(24, 200, 2), thingRow(40, 1, 3), 64},
		{"63 by half", thingRow(31, 0, 4), thingRow(32, 1, 4), 63},
		{"64 by half", thingRow(32, 0, 4), thingRow(32, 1, 4), 64},
		{"80", thingRow(40, 0, 2), thingRow(40, 1, 2), 80},
	} {
		_, many := slowDelta(c.base, c.now)
		if many != c.many {
			t.Fatal(c.what, many)
		}
		wantSlowDelta(t, c.what, c.base, c.now)
		if many > mostTold {
			wantDelta(t, c.what, c.base, c.now, impl.Bits{}, false)
		}
	}
	// The same things stay, and some of them are otherwise.
	base, now := thingRow(40, 0, 2), append(thingRow(17, 0, 2), thingRow(23, 101, 2)...)
	wantSlowDelta(t, "46", base, now)
	for i := range 17 {
		now[i].Y ^= 1
		_, many := slowDelta(base, now)
		if many != 47+i {
			t.Fatal(many)
		}
		wantSlowDelta(t, "one more that is otherwise", base, now)
	}
}

// The most bits that a delta can have are far from as many as may be.
func TestTheGreatestDelta(t *testing.T) {
	base, now := thingRow(23, 200, 2), thingRow(40, 0, 1)
	b, good := impl.DeltaOf(base, now)
	if !good || b.Size != 6+23*9+40*39 {
		t.Error(b.Size, good)
	}
	wantApplied(t, "the greatest", base, b, now, true)
	for _, size := range []int{b.Size + 1, mostBits - 1, mostBits} {
		wantApplied(t, "noughts behind", base, bitsOf(digitsOf(b)+strings.Repeat("0", size-b.Size)), nil, false)
	}
}

// coinThings gives good things out of coins, their Ids below a limit.
func coinThings(next func(int) int, many int, ids int) []impl.Thing {
	things := map[int]impl.Thing{}
	for range many {
		id := next(ids)
		things[id] = sentThing(id, coinOf(next, []int{0, 1, 512, next(1024), 1023}), coinOf(next, []int{0, 3, 511, next(1024), 1023}), coinOf(next, []int{0, 64, next(128), 127}))
	}
	var out []impl.Thing
	for id := range ids {
		if one, has := things[id]; has && len(out) < mostThings {
			out = append(out, one)
		}
	}
	return out
}

// coinLater gives things of which some are as they were, and some are otherwise, gone or new.
func coinLater(next func(int) int, l []impl.Thing, ids int) []impl.Thing {
	things := thingsById(l)
	for _, one := range l {
		switch next(4) {
		case 0:
			delete(things, one.Id)
		case 1:
			for field := range 3 {
				if next(2) == 0 {
					*thingNumbers(&one)[field+1] = next(128)
				}
			}
			things[one.Id] = one
		}
	}
	for _, one := range coinThings(next, next(12), ids) {
		things[one.Id] = one
	}
	var out []impl.Thing
	for id := range 256 {
		if one, has := things[id]; has && len(out) < mostThings {
			out = append(out, one)
		}
	}
	return out
}

// Promise 23: deltas come back, and a row of them leads from the first things to the last.
func TestDeltasComeBack(t *testing.T) {
	refused := 0
	for seed := range 1200 {
		next := coinRow(seed + 23200)
		ids := coinOf(next, []int{4, 12, 60, 256})
		base := coinThings(next, next(60), ids)
		now := coinLater(next, base, ids)
		if next(4) == 0 {
			now = coinThings(next, 60, ids)
		}
		wantSlowDelta(t, "coins", base, now)
		if _, good := impl.DeltaOf(base, now); !good {
			refused++
		}
	}
	if !within(20, refused, 300) {
		t.Error(refused)
	}
	for seed := range 100 {
		next := coinRow(seed + 23300)
		here := coinThings(next, 10, 40)
		there := here
		for range 20 {
			now := coinLater(next, here, 40)
			b, good := impl.DeltaOf(here, now)
			then, applied := impl.ApplyDelta(there, b)
			if !good || !applied || !alike(then, now) {
				t.Fatal(here, now, b, then)
			}
			here, there = now, then
		}
	}
}

// Only what is just a delta is one: a bit too few, one too many, each bit changed, another count.
func TestBitsThatAreAlmostADelta(t *testing.T) {
	deltas := 0
	for seed := range 60 {
		next := coinRow(seed + 23400)
		ids := coinOf(next, []int{4, 12, 256})
		base := coinThings(next, next(12), ids)
		now := coinLater(next, base, ids)
		digits, many := slowDelta(base, now)
		for size := range len(digits) {
			wantApplied(t, "cut", base, bitsOf(digits[:size]), nil, false)
		}
		for _, more := range []string{"0", "1", "00", "0000000", "00000000", "000000000"} {
			wantApplied(t, "longer", base, bitsOf(digits+more), nil, false)
			wantSlowApplied(t, "longer ahead", base, bitsOf(more+digits))
		}
		for at := range digits {
			other := []byte(digits)
			other[at] ^= 1
			if wantSlowApplied(t, "one bit changed", base, bitsOf(string(other))) {
				deltas++
			}
			wantSlowApplied(t, "one bit lost", base, bitsOf(digits[:at]+digits[at+1:]))
			wantSlowApplied(t, "one bit put in", base, bitsOf(digits[:at]+"1"+digits[at:]))
		}
		for count := range 64 {
			wantApplied(t, "a count", base, bitsOf(inBits(count, 6)+digits[6:]), ifEqual(count, many, now), count == many)
		}
		wantSlowApplied(t, "of another base", coinLater(next, base, ids), bitsOf(digits))
	}
	if deltas < 500 {
		t.Error(deltas)
	}
}

// ifEqual gives the things where two numbers are alike, and none otherwise.
func ifEqual(a int, b int, l []impl.Thing) []impl.Thing {
	if a != b {
		return nil
	}
	return l
}

func almostDeltas() []struct{ what, base, digits string } {
	const all7 = "00000111 1 1 0000000001 1 0000000010 1 0000011"
	const all8 = "00001000 1 1 0000000001 1 0000000010 1 0000011"
	return []struct{ what, base, digits string }{
		{"no bits", "", ""},
		{"no bits, of things", "7=1,2,3", ""},
		{"one bit", "", "0"},
		{"five bits", "", "00000"},
		{"seven bits", "", "0000000"},
		{"a one behind", "", "0000001"},
		{"a count of 1, and nothing", "", "000001"},
		{"a count of 63, and nothing", "", "111111"},
		{"an Id that lacks a bit", "7=1,2,3", "000001 0000011"},
		{"an Id alone", "7=1,2,3", "000001 00000111"},
		{"an Id that stays, and nothing", "7=1,2,3", "000001 00000111 1"},
		{"one that lacks a field", "7=1,2,3", "000001 00000111 1 1 0000000010 1 0000000001"},
		{"one that lacks a bit", "7=1,2,3", "000001 00000111 1 1 0000000010 1 0000000001 1 000010"},
		{"one with a bit more", "7=1,2,3", "000001 00000111 1 1 0000000010 1 0000000001 1 0000100 0"},
		{"one too few counted", "", "000001" + all7 + all8},
		{"one too many counted", "", "000011" + all7 + all8},
		{"Ids that stay", "", "000010" + all7 + all7},
		{"Ids that fall", "", "000010" + all8 + all7},
		{"gone twice", "7=1,2,3", "000010 00000111 0 00000111 0"},
		{"gone, and new again", "7=1,2,4", "000010 00000111 0" + all7},
		{"new, and gone again", "", "000010" + all7 + "00000111 0"},
		{"told in two pieces", "7=1,2,3", "000010 00000111 1 1 0000000010 0 0 00000111 1 0 1 0000000001 0"},
		{"otherwise, and back", "7=1,2,3", "000010 00000111 1 1 0000000010 0 0 00000111 1 1 0000000001 0 0"},
		{"gone Ids that fall", "7=1,2,3 8=1,2,3", "000010 00001000 0 00000111 0"},
		{"gone, but not there", "", "000001 00000111 0"},
		{"gone, but another is there", "8=1,2,3", "000001 00000111 0"},
		{"new, with no X", "", "000001 00000111 1 0 1 0000000010 1 0000011"},
		{"new, with no Y", "", "000001 00000111 1 1 0000000001 0 1 0000011"},
		{"new, with no Hp", "", "000001 00000111 1 1 0000000001 1 0000000010 0"},
		{"new, with X alone", "", "000001 00000111 1 1 0000000001 0 0"},
		{"new, with none", "", "000001 00000111 1 0 0 0"},
		{"new, with none, where 0 would be", "", "000001 00000000 1 0 0 0"},
		{"as it was, none told", "7=1,2,3", "000001 00000111 1 0 0 0"},
		{"all noughts, none told", "7=0,0,0", "000001 00000111 1 0 0 0"},
		{"as it was, all told", "7=1,2,3", "000001" + all7},
		{"X as it was", "7=1,2,3", "000001 00000111 1 1 0000000001 0 0"},
		{"Y as it was", "7=1,2,3", "000001 00000111 1 0 1 0000000010 0"},
		{"Hp as it was", "7=1,2,3", "000001 00000111 1 0 0 1 0000011"},
		{"X as it was, and Y told", "7=1,2,3", "000001 00000111 1 1 0000000001 1 0000000001 0"},
		{"Hp as it was, and Y told", "7=1,2,3", "000001 00000111 1 0 1 0000000001 1 0000011"},
		{"Y as it was, and all told", "7=1,2,3", "000001 00000111 1 1 0000000010 1 0000000010 1 0000001"},
		{"X as it was, 0", "7=0,2,3", "000001 00000111 1 1 0000000000 0 0"},
		{"a good one, and one as it was", "7=1,2,4 8=1,2,3", "000010 00000111 1 0 0 1 0000011" + all8},
	}
}

func TestAlmostDeltasTold(t *testing.T) {
	for _, c := range almostDeltas() {
		wantApplied(t, c.what, thingsOf(c.base), bitsOf(c.digits), nil, false)
		if _, good := slowApplyDelta(thingsOf(c.base), bitsOf(c.digits)); good {
			t.Error(c.what)
		}
	}
}

// X, Y and Hp that are told are within their bounds, whatever their bits are.
func TestDeltasOfEachValue(t *testing.T) {
	for value := range lastThingPlace + 1 {
		hp := value % (lastThingHp + 1)
		now := []impl.Thing{sentThing(value%256, value, lastThingPlace-value, hp)}
		wantApplied(t, "each value", nil, bitsOf("000001"+inBits(value%256, 8)+"1 1"+inBits(value, 10)+"1"+inBits(lastThingPlace-value, 10)+"1"+inBits(hp, 7)), now, true)
	}
}

// An outcome has no more things than may be, also where all that is told is as it should be.
func TestDeltasToTooManyThings(t *testing.T) {
	for _, c := range []struct {
		many, new, gone int
		good            bool
	}{
		{40, 0, 0, true}, {39, 1, 0, true}, {40, 1, 0, false}, {40, 1, 1, true}, {40, 2, 1, false}, {39, 2, 0, false},
		{39, 2, 1, true}, {0, 40, 0, true}, {0, 41, 0, false}, {0, 63, 0, false}, {23, 40, 23, true}, {22, 41, 22, false}, {40, 31, 31, true}, {40, 32, 31, false},
	} {
		base := thingRow(c.many, 0, 2)
		kept := base[c.gone:]
		added := thingRow(c.new, 1, 4)
		now := slices.Concat(kept, added)
		slices.SortFunc(now, func(a impl.Thing, b impl.Thing) int { return cmp.Compare(a.Id, b.Id) })
		digits, many := slowDelta(base, now)
		if many != c.new+c.gone || many > mostTold {
			t.Fatal(c)
		}
		if !c.good {
			now = nil
		}
		wantApplied(t, "many", base, bitsOf(digits), now, c.good)
		wantSlowApplied(t, "many", base, bitsOf(digits))
	}
	// On the way there may be more, where what goes stands behind what comes.
	base := thingRow(mostThings, 100, 2)
	for many := range 24 {
		now := append(thingRow(many, 0, 3), base[:mostThings-many]...)
		wantSlowDelta(t, "new ones ahead", base, now)
		digits, _ := slowDelta(base, append(thingRow(many+1, 0, 3), base[:mostThings-many]...))
		wantApplied(t, "one new one more ahead", base, bitsOf(digits), nil, false)
	}
}

// Promise 23: bits of coins are a delta just where they are the one to what comes of them.
func TestBitsOfCoinsAsDeltas(t *testing.T) {
	deltas := 0
	for seed := range 6000 {
		next := coinRow(seed + 23500)
		base := coinThings(next, next(5), 3)
		b := bitsOf(inBits(next(4), 6) + coinDelta(next))
		if next(3) > 0 {
			digits, _ := slowDelta(base, coinThings(next, next(5), 3))
			b = bitsOf(digits)
		}
		now, good := impl.ApplyDelta(base, b)
		wantSlowApplied(t, "coins", base, b)
		if !good {
			continue
		}
		deltas++
		if again, told := impl.DeltaOf(base, now); !told || !alike(again, b) {
			t.Fatal(base, b, now, again)
		}
	}
	if deltas < 3000 {
		t.Error(deltas)
	}
}

// coinDelta gives digits that look as what a delta tells of a few Ids.
func coinDelta(next func(int) int) string {
	digits := ""
	for range next(4) {
		digits += inBits(next(3), 8)
		if next(2) == 0 {
			digits += "0"
			continue
		}
		digits += "1"
		for _, many := range []int{10, 10, 7} {
			digits += fieldDigits(next(4) > 0, coinOf(next, []int{0, 1, 64, next(128)}), many)
		}
	}
	return digits
}

func TestInterestTold(t *testing.T) {
	l := thingsOf("1=100,100,5 4=103,104,6 9=100,95,7 20=95,100,0 30=500,500,9")
	for _, c := range []struct {
		what string
		at   [4]int
		want string
	}{
		{"all", [4]int{100, 100, 2000, 40}, "1=100,100,5 4=103,104,6 9=100,95,7 20=95,100,0 30=500,500,9"},
		{"at the place alone", [4]int{100, 100, 0, 40}, "1=100,100,5"},
		{"none at the place", [4]int{99, 100, 0, 40}, ""},
		{"one step too far", [4]int{100, 100, 4, 40}, "1=100,100,5"},
		{"just at far", [4]int{100, 100, 5, 40}, "1=100,100,5 4=103,104,6 9=100,95,7 20=95,100,0"},
		{"none at most", [4]int{100, 100, 5, 0}, ""},
		{"one at most", [4]int{100, 100, 5, 1}, "1=100,100,5"},
		{"two at most, three as near", [4]int{100, 100, 5, 2}, "1=100,100,5 4=103,104,6"},
		{"three at most", [4]int{100, 100, 5, 3}, "1=100,100,5 4=103,104,6 9=100,95,7"},
		{"four at most", [4]int{100, 100, 5, 4}, "1=100,100,5 4=103,104,6 9=100,95,7 20=95,100,0"},
		{"nearer ones behind", [4]int{97, 97, 5, 2}, "9=100,95,7 20=95,100,0"},
		{"the last is the nearest", [4]int{400, 400, 2000, 1}, "30=500,500,9"},
		{"rising though farther ones are ahead", [4]int{400, 400, 2000, 3}, "1=100,100,5 4=103,104,6 30=500,500,9"},
		{"from the corner", [4]int{0, 0, 142, 40}, "1=100,100,5 9=100,95,7 20=95,100,0"},
		{"from the corner, one fewer", [4]int{0, 0, 141, 40}, "9=100,95,7 20=95,100,0"},
		{"from the last corner", [4]int{1023, 1023, 739, 40}, ""},
		{"from the last corner, one more", [4]int{1023, 1023, 740, 40}, "30=500,500,9"},
	} {
		wantInterest(t, c.what, l, c.at, thingsOf(c.want), true)
		wantSlowInterest(t, c.what, l, c.at)
	}
	wantInterest(t, "of none", nil, [4]int{5, 5, 2000, 40}, nil, true)
	far := thingsOf("0=1023,1023,0")
	wantInterest(t, "as far as can be", far, [4]int{0, 0, 2000, 40}, far, true)
	wantInterest(t, "as far as can be, just", far, [4]int{0, 0, 1447, 40}, far, true)
	wantInterest(t, "as far as can be, one fewer", far, [4]int{0, 0, 1446, 40}, nil, true)
}

func TestInterestOfEachLimit(t *testing.T) {
	lists := [][]impl.Thing{nil, thingsOf("0=0,0,0 7=1023,1023,9 255=512,512,127"), thingRow(mostThings, 0, 3), thingsOf("1=5,5,5")}
	for _, l := range lists {
		for slot, numbers := range [][]int{
			append(farNumbers(), -1024, -1, 0, 1, 512, 1022, 1023, 1024, 1025, 2000),
			append(farNumbers(), -1024, -1, 0, 1, 512, 1022, 1023, 1024, 1025, 2000),
			append(farNumbers(), -2000, -5, -1, 0, 1, 2, 1999, 2000, 2001, 4000, 1<<32),
			append(farNumbers(), -40, -1, 0, 1, 2, 3, 39, 40, 41, 80, 1<<32),
		} {
			for _, number := range numbers {
				at := [4]int{0, 0, 2000, 40}
				at[slot] = number
				wantSlowInterest(t, "a limit", l, at)
				at = [4]int{500, 511, 3, 1}
				at[slot] = number
				wantSlowInterest(t, "a limit", l, at)
			}
		}
	}
}

// Things on a ring round a place are as near as one another; the lesser Ids are taken.
func TestInterestOfThingsAsNear(t *testing.T) {
	ring := thingsOf("2=525,500,1 3=500,525,2 5=475,500,3 8=500,475,4 13=515,520,5 21=520,515,6 34=485,480,7 55=507,524,8 89=493,476,9")
	for most := range len(ring) + 2 {
		wantInterest(t, "a ring", ring, [4]int{500, 500, 25, most}, ring[:min(most, len(ring))], true)
		wantInterest(t, "a ring too far", ring, [4]int{500, 500, 24, most}, nil, true)
		nearer := append(slices.Clone(ring), sentThing(200, 500, 501, 0))
		want := append(slices.Clone(ring[:min(max(most-1, 0), len(ring))]), nearer[9])
		if most == 0 {
			want = nil
		}
		wantInterest(t, "one nearer behind", nearer, [4]int{500, 500, 25, most}, want, true)
	}
	same := thingRow(mostThings, 5, 6)
	for i := range same {
		same[i].X, same[i].Y = 300, 700
	}
	for most := range mostThings + 1 {
		wantInterest(t, "at one place", same, [4]int{300, 699, 1, most}, same[:most], true)
		wantInterest(t, "at one place", same, [4]int{300, 699, 0, most}, nil, true)
	}
}

func TestInterestOfCoins(t *testing.T) {
	some, cut := 0, 0
	for seed := range 1500 {
		next := coinRow(seed + 23600)
		l := coinThings(next, next(60), 256)
		side := coinOf(next, []int{3, 10, 100, 1024})
		for i := range l {
			l[i].X, l[i].Y = next(side), next(side)
		}
		at := [4]int{next(side), next(side), next(coinOf(next, []int{4, side, 2001})), next(coinOf(next, []int{3, 10, 41}))}
		wantSlowInterest(t, "coins", l, at)
		near, _ := impl.Interest(l, at[0], at[1], at[2], at[3])
		all, _ := impl.Interest(l, at[0], at[1], at[2], mostThings)
		if len(near) > 0 {
			some++
		}
		if len(near) < len(all) {
			cut++
		}
		if len(near) != min(at[3], len(all)) || !impl.GoodThings(near) {
			t.Fatal(l, at, near, all)
		}
	}
	if some < 600 || cut < 400 {
		t.Error(some, cut)
	}
}

func TestSeenAgoTold(t *testing.T) {
	history := [][]impl.Thing{thingsOf("1=1,1,1 7=2,2,2"), nil, thingsOf("7=3,3,3"), thingsOf("2=5,5,5 7=4,4,4 255=6,6,6")}
	for _, c := range []struct {
		what    string
		ago, id int
		want    string
	}{
		{"now", 0, 7, "7=4,4,4"},
		{"one ago", 1, 7, "7=3,3,3"},
		{"two ago, of no thing", 2, 7, ""},
		{"the first list", 3, 7, "7=2,2,2"},
		{"one beyond", 4, 7, ""},
		{"one that is to come", -1, 7, ""},
		{"only in the first list", 3, 1, "1=1,1,1"},
		{"only in another list", 0, 1, ""},
		{"only in a later list", 3, 2, ""},
		{"in no list", 0, 9, ""},
		{"the last one", 0, 255, "255=6,6,6"},
		{"the first one", 0, 2, "2=5,5,5"},
		{"no Id", 0, -1, ""},
		{"no Id", 0, 256, ""},
		{"no Id", 0, 1<<32 + 7, ""},
		{"the Id 0, not there", 0, 0, ""},
		{"far ago", math.MaxInt, 7, ""},
		{"far to come", math.MinInt, 7, ""},
	} {
		var want impl.Thing
		if c.want != "" {
			want = thingsOf(c.want)[0]
		}
		wantSeenAgo(t, c.what, history, c.ago, c.id, want, c.want != "")
		wantSlowSeenAgo(t, c.what, history, c.ago, c.id)
	}
	zero := [][]impl.Thing{thingsOf("0=0,0,0")}
	wantSeenAgo(t, "all noughts", zero, 0, 0, impl.Thing{}, true)
	wantSeenAgo(t, "no list", nil, 0, 0, impl.Thing{}, false)
	wantSeenAgo(t, "no list, one ago", nil, -1, 0, impl.Thing{}, false)
	wantSeenAgo(t, "a list of none", [][]impl.Thing{nil}, 0, 0, impl.Thing{}, false)
}

// manyLists gives so many lists with a thing each, that says which list it is of.
func manyLists(many int) [][]impl.Thing {
	var out [][]impl.Thing
	for i := range many {
		out = append(out, []impl.Thing{sentThing(7, i, 0, 0)})
	}
	return out
}

func TestSeenAgoOfManyLists(t *testing.T) {
	for _, many := range []int{0, 1, 2, mostThings - 1, mostThings, mostThings + 1, 100} {
		for _, ago := range append(farNumbers(), -many, -2, -1, 0, 1, 2, many-2, many-1, many, many+1, mostThings, 99) {
			good := within(1, many, mostThings) && within(0, ago, many-1)
			var want impl.Thing
			if good {
				want = sentThing(7, many-1-ago, 0, 0)
			}
			wantSeenAgo(t, "many lists", manyLists(many), ago, 7, want, good)
			wantSlowSeenAgo(t, "many lists", manyLists(many), ago, 8)
		}
	}
	for at := range mostThings {
		for _, bad := range [][]impl.Thing{thingsOf("7=1,2,128"), thingsOf("7=0,0,0 7=0,0,0"), thingRow(41, 0, 1)} {
			history := manyLists(mostThings)
			history[at] = bad
			for _, ago := range []int{0, mostThings - 1 - at, mostThings - 1} {
				wantSeenAgo(t, "one list that is not good", history, ago, 7, impl.Thing{}, false)
			}
		}
	}
}

// spoiledThings gives things of which something may be wrong.
func spoiledThings(l []impl.Thing, next func(int) int) []impl.Thing {
	out := slices.Clone(l)
	if len(out) == 0 {
		return []impl.Thing{sentThing(next(300), next(1030), next(1030), next(130))}
	}
	one := &out[next(len(out))]
	switch next(3) {
	case 0:
		*thingNumbers(one)[next(4)] = coinOf(next, thingNumbersAsked())
	case 1:
		out = append(out, coinOf(next, out))
	case 2:
		*one = coinOf(next, out)
	}
	return out
}

func spoiledBits(b impl.Bits, next func(int) int) impl.Bits {
	out := impl.Bits{Size: b.Size, Data: slices.Clone(b.Data)}
	switch next(4) {
	case 0:
		out.Size = coinOf(next, bitSizes())
	case 1:
		out.Size += next(5) - 2
	case 2:
		out.Data = append(out.Data, byte(next(2)))
	case 3:
		if len(out.Data) > 0 {
			out.Data[len(out.Data)-1] ^= 1 << next(8)
		}
	}
	return out
}

// Promise 29.
func TestTheWireAnswersAtAnyArguments(t *testing.T) {
	kinds := map[string]int{}
	count := func(what string, good bool) { kinds[fmt.Sprint(what, " ", good)]++ }
	for seed := range 3000 {
		next := coinRow(seed + 2923)
		ids := coinOf(next, []int{4, 20, 256})
		base := coinThings(next, next(coinOf(next, []int{5, 60})), ids)
		now := coinLater(next, base, ids)
		digits, _ := slowDelta(base, now)
		b := bitsOf(digits)
		if next(4) == 0 {
			b = bitsOf(digitsByCoins(next, next(90)))
		}
		history := [][]impl.Thing{base, now, coinThings(next, next(9), ids)}[:next(4)]
		if next(4) == 0 {
			base = spoiledThings(base, next)
		}
		if next(4) == 0 {
			now = spoiledThings(now, next)
		}
		if next(3) == 0 {
			b = spoiledBits(b, next)
		}
		at := [4]int{next(1024), next(1024), next(2001), next(41)}
		if next(3) == 0 {
			at[next(4)] = coinOf(next, append(farNumbers(), -1, 1024, 2001, 41))
		}
		wantGoodBits(t, "any", b, slowGoodBits(b))
		wantGoodThings(t, "any", base, slowGoodThings(base))
		wantSlowDelta(t, "any", base, now)
		applied := wantSlowApplied(t, "any", base, b)
		wantSlowInterest(t, "any", base, at)
		many := coinOf(next, widthsAsked())
		wantSlowPutBits(t, "any", b, coinOf(next, valuesAsked(many)), many)
		wantSlowTakeBits(t, "any", b, coinOf(next, append(farNumbers(), next(40), next(200), b.Size-1, b.Size)), many)
		ago, id := next(4)-next(2), next(coinOf(next, []int{4, 300}))
		wantSlowSeenAgo(t, "any", history, ago, id)
		wantSlowSeenAgo(t, "any", [][]impl.Thing{base, now}, ago, id)
		count("bits", slowGoodBits(b))
		count("things", slowGoodThings(base))
		count("applied", applied)
		_, seen := slowSeenAgo(history, ago, id)
		count("seen", seen)
	}
	for _, kind := range []string{"bits true", "bits false", "things true", "things false", "applied true", "applied false", "seen true", "seen false"} {
		if kinds[kind] < 150 {
			t.Error(kinds)
		}
	}
}

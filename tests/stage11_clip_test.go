package tests

import (
	"fmt"
	"math"
	"math/big"
	"math/bits"
	"slices"
	"testing"

	"loop.example/g00064/impl"
)

const mostFrames = 60
const mostTracks = 8
const mostKeyValue = 100000
const mostMarks = 20
const mostClipSteps = 600

// keysOf gives keys by a frame and a value in turn.
func keysOf(numbers ...int) []impl.Key {
	var out []impl.Key
	for i := 0; i < len(numbers); i += 2 {
		out = append(out, impl.Key{Frame: numbers[i], Value: numbers[i+1]})
	}
	return out
}

// keysAt gives keys at these frames of the values there.
func keysAt(values []int, frames ...int) []impl.Key {
	var out []impl.Key
	for _, frame := range frames {
		out = append(out, impl.Key{Frame: frame, Value: values[frame]})
	}
	return out
}

// manyKeys gives so many keys, at all frames from 0 on, up and down.
func manyKeys(many int) []impl.Key {
	var out []impl.Key
	for i := range many {
		out = append(out, impl.Key{Frame: i, Value: i % 2 * 10})
	}
	return out
}

// sawTeeth gives so many values, up and down, of which no three are on one straight way.
func sawTeeth(many int, high int) []int {
	var out []int
	for i := range many {
		out = append(out, i%2*high)
	}
	return out
}

// upFromNought gives so many values, each more than the one ahead of it by the same.
func upFromNought(many int, by int) []int {
	var out []int
	for i := range many {
		out = append(out, i*by)
	}
	return out
}

func track(name string, numbers ...int) impl.Track {
	return impl.Track{Name: name, Keys: keysOf(numbers...)}
}

func tracks(l ...impl.Track) []impl.Track { return l }

func mark(frame int, name string) impl.Mark { return impl.Mark{Frame: frame, Name: name} }

func marks(l ...impl.Mark) []impl.Mark { return l }

func manyTracks(many int) []impl.Track {
	var out []impl.Track
	for i, name := range manyNames(many) {
		out = append(out, track(name, 0, i))
	}
	return out
}

// manyMarks gives so many marks of one frame.
func manyMarks(many int, frame int) []impl.Mark {
	var out []impl.Mark
	for _, name := range manyNames(many) {
		out = append(out, mark(frame, name))
	}
	return out
}

func clip(frames int, l []impl.Track, m []impl.Mark) impl.Clip {
	return impl.Clip{Frames: frames, Tracks: l, Marks: m}
}

// goodKeyRows holds keys at each limit that the document names.
func goodKeyRows() map[string][]impl.Key {
	return map[string][]impl.Key{
		"one key":             keysOf(7, 5),
		"one key at 0":        keysOf(0, 0),
		"one at the last":     keysOf(mostFrames-1, 3),
		"first and last":      keysOf(0, 1, mostFrames-1, 2),
		"all of them":         manyKeys(mostFrames),
		"side by side":        keysOf(4, 9, 5, -9),
		"the least value":     keysOf(1, -mostKeyValue),
		"the greatest value":  keysOf(1, mostKeyValue),
		"from least to most":  keysOf(0, -mostKeyValue, mostFrames-1, mostKeyValue),
		"from most to least":  keysOf(0, mostKeyValue, mostFrames-1, -mostKeyValue),
		"one value":           keysOf(3, 8, 9, 8, 20, 8),
		"the last but others": keysOf(20, 1, 30, -7, 31, 2, mostFrames-1, 5),
	}
}

// badKeyRows holds keys that are not good, in each way that the document names.
func badKeyRows() map[string][]impl.Key {
	out := map[string][]impl.Key{
		"no key":               nil,
		"one too many":         manyKeys(mostFrames + 1),
		"one too many, below":  append(manyKeys(mostFrames), keysOf(mostFrames-1, 1)...),
		"far too many":         manyKeys(5000),
		"two of one frame":     keysOf(3, 1, 3, 2),
		"the same twice":       keysOf(3, 1, 3, 1),
		"two of one at last":   keysOf(0, 1, 9, 1, 12, 2, 12, 2),
		"keys that fall":       keysOf(4, 1, 3, 2),
		"falling at last":      keysOf(0, 1, 9, 1, 8, 2),
		"falling behind a gap": keysOf(5, 1, 9, 1, 5, 2),
	}
	for _, off := range []int{-1, -mostFrames, mostFrames, mostFrames + 1, math.MinInt, math.MaxInt, 1 << 32} {
		out[fmt.Sprint("frame ", off)] = keysOf(off, 1)
		out[fmt.Sprint("first frame ", off)] = keysOf(off, 1, 5, 2)
		out[fmt.Sprint("last frame ", off)] = keysOf(5, 1, off, 2)
	}
	for _, off := range []int{-mostKeyValue - 1, mostKeyValue + 1, math.MinInt, math.MaxInt, 1 << 32, math.MinInt + 1} {
		out[fmt.Sprint("value ", off)] = keysOf(0, off)
		out[fmt.Sprint("first value ", off)] = keysOf(0, off, 5, 2, 9, 1)
		out[fmt.Sprint("last value ", off)] = keysOf(0, 1, 5, 2, 9, off)
	}
	return out
}

// goodClips holds clips at each limit that the document names.
func goodClips() map[string]impl.Clip {
	out := map[string]impl.Clip{
		"the least clip":      clip(1, nil, nil),
		"the longest clip":    clip(mostFrames, nil, nil),
		"a clip":              clip(4, tracks(track("x", 0, 1, 3, 9)), marks(mark(0, "step"))),
		"all tracks":          clip(1, manyTracks(mostTracks), nil),
		"all marks":           clip(1, nil, manyMarks(mostMarks, 0)),
		"a mark a frame":      clip(mostMarks, nil, marks(mark(0, "z"), mark(1, "a"), mark(mostMarks-1, "a"))),
		"a key at the last":   clip(5, tracks(track("x", 4, 7)), nil),
		"all keys":            clip(mostFrames, tracks(impl.Track{Name: "x", Keys: manyKeys(mostFrames)}), nil),
		"a mark at the last":  clip(5, nil, marks(mark(4, "x"))),
		"two of one frame":    clip(5, nil, marks(mark(2, "a"), mark(2, "b"))),
		"one name, two marks": clip(5, nil, marks(mark(2, "a"), mark(3, "a"))),
		"names by bytes":      clip(5, tracks(track("B", 0, 1), track("_", 0, 1), track("a", 0, 1), track("aB", 0, 1), track("a_", 0, 1)), nil),
		"the longest name":    clip(5, tracks(track(longName, 0, 1)), marks(mark(1, longName))),
		"one name for both":   clip(5, tracks(track("a", 0, 1)), marks(mark(1, "a"))),
	}
	for what, keys := range goodKeyRows() {
		out["keys: "+what] = clip(mostFrames, tracks(impl.Track{Name: "a", Keys: keys}, track("b", 3, 4)), nil)
	}
	return out
}

// badClips holds clips that are not good, in each way that the document names.
func badClips() map[string]impl.Clip {
	out := map[string]impl.Clip{
		"nothing":                  {},
		"tracks of one name":       clip(5, tracks(track("a", 0, 1), track("a", 0, 1)), nil),
		"tracks that fall":         clip(5, tracks(track("b", 0, 1), track("a", 0, 1)), nil),
		"tracks that fall at last": clip(5, tracks(track("a", 0, 1), track("ab", 0, 1), track("aB", 0, 1)), nil),
		"one track too many":       clip(5, manyTracks(mostTracks+1), nil),
		"far too many tracks":      clip(5, manyTracks(90), nil),
		"one mark too many":        clip(5, nil, manyMarks(mostMarks+1, 2)),
		"far too many marks":       clip(5, nil, manyMarks(90, 2)),
		"a key at Frames":          clip(5, tracks(track("x", 5, 7)), nil),
		"a key behind Frames":      clip(5, tracks(track("x", 0, 1, 6, 7)), nil),
		"the second track's key":   clip(5, tracks(track("x", 4, 1), track("y", 5, 7)), nil),
		"a mark at Frames":         clip(5, nil, marks(mark(5, "x"))),
		"the last mark at Frames":  clip(5, nil, marks(mark(0, "x"), mark(5, "x"))),
		"the same mark twice":      clip(5, nil, marks(mark(2, "a"), mark(2, "a"))),
		"marks that fall":          clip(5, nil, marks(mark(3, "a"), mark(2, "b"))),
		"names that fall":          clip(5, nil, marks(mark(2, "b"), mark(2, "a"))),
		"marks that fall at last":  clip(5, nil, marks(mark(0, "a"), mark(3, "b"), mark(3, "a"))),
	}
	for _, off := range []int{0, -1, -mostFrames, mostFrames + 1, math.MinInt, math.MaxInt, 1<<32 + 5} {
		out[fmt.Sprint("Frames ", off)] = clip(off, nil, nil)
		out[fmt.Sprint("with all, Frames ", off)] = clip(off, tracks(track("a", 0, 1)), marks(mark(0, "a")))
	}
	for _, off := range []int{-1, math.MinInt, math.MaxInt, 1 << 32} {
		out[fmt.Sprint("mark ", off)] = clip(5, nil, marks(mark(off, "a")))
		out[fmt.Sprint("last mark ", off)] = clip(5, nil, marks(mark(0, "a"), mark(off, "b")))
	}
	for _, name := range badNames() {
		out["track: "+name] = clip(5, tracks(track(name, 0, 1)), nil)
		out["last track: "+name] = clip(5, tracks(track("A", 0, 1), track(name, 0, 1)), nil)
		out["mark: "+name] = clip(5, nil, marks(mark(1, name)))
		out["last mark: "+name] = clip(5, nil, marks(mark(1, "A"), mark(2, name)))
	}
	for what, keys := range badKeyRows() {
		out["keys: "+what] = clip(mostFrames, tracks(impl.Track{Name: "a", Keys: keys}), nil)
		out["last keys: "+what] = clip(mostFrames, tracks(track("a", 0, 1), impl.Track{Name: "b", Keys: keys}), nil)
	}
	return out
}

func slowGoodKeys(keys []impl.Key, frames int) bool {
	good := len(keys) >= 1 && len(keys) <= mostFrames
	for i, k := range keys {
		good = good && slices.Contains(counted(min(frames, mostFrames)), k.Frame)
		good = good && k.Value >= -mostKeyValue && k.Value <= mostKeyValue
		for _, ahead := range keys[:i] {
			good = good && ahead.Frame < k.Frame
		}
		if !good {
			return false
		}
	}
	return good
}

func slowGoodKeyValues(values []int, least int, most int) bool {
	return len(values) >= least && len(values) <= most && !slices.ContainsFunc(values, func(v int) bool {
		return v > mostKeyValue || v < -mostKeyValue
	})
}

func slowGoodClip(c impl.Clip) bool {
	good := c.Frames >= 1 && c.Frames <= mostFrames && len(c.Tracks) <= mostTracks && len(c.Marks) <= mostMarks
	if !good {
		return false
	}
	for i, one := range c.Tracks {
		good = good && slowGoodName(one.Name) && slowGoodKeys(one.Keys, c.Frames)
		for _, ahead := range c.Tracks[:i] {
			good = good && ahead.Name < one.Name
		}
	}
	for i, one := range c.Marks {
		good = good && slowGoodName(one.Name) && slices.Contains(counted(c.Frames), one.Frame)
		for _, ahead := range c.Marks[:i] {
			good = good && (ahead.Frame < one.Frame || ahead.Frame == one.Frame && ahead.Name < one.Name)
		}
	}
	return good
}

// slowOnWay gives a's value and the part of the way to b, down.
func slowOnWay(a impl.Key, b impl.Key, frame int) int {
	part := big.NewInt(int64(b.Value - a.Value))
	part.Mul(part, big.NewInt(int64(frame-a.Frame)))
	// What is left over is from 0 on, whatever the sign: this goes down.
	part.Div(part, big.NewInt(int64(b.Frame-a.Frame)))
	return a.Value + int(part.Int64())
}

func slowValueAt(keys []impl.Key, frame int) (int, bool) {
	if !slowGoodKeys(keys, mostFrames) || !slices.Contains(counted(mostFrames), frame) {
		return 0, false
	}
	return slowValueOf(keys, frame), true
}

// slowValueOf asks each key by itself, and each two side by side.
func slowValueOf(keys []impl.Key, frame int) int {
	for i, k := range keys {
		if k.Frame == frame {
			return k.Value
		}
		if i > 0 && keys[i-1].Frame < frame && frame < k.Frame {
			return slowOnWay(keys[i-1], k, frame)
		}
	}
	if frame < keys[0].Frame {
		return keys[0].Value
	}
	return keys[len(keys)-1].Value
}

func slowWorst(values []int, keys []impl.Key) (int, bool) {
	if !slowGoodKeyValues(values, 1, mostFrames) || !slowGoodKeys(keys, mostFrames) {
		return 0, false
	}
	var off []int
	for frame, value := range values {
		at := slowValueOf(keys, frame)
		off = append(off, at-value, value-at)
	}
	return slices.Max(off), true
}

// allKeyChoices goes through all choices of frames that have the first and the last one, and gives
// the one of the fewest, of several the first one.
func allKeyChoices(values []int, most int) []impl.Key {
	var best []int
	for choice := range 1 << len(values) {
		var frames []int
		for frame := range values {
			if choice>>frame&1 == 1 {
				frames = append(frames, frame)
			}
		}
		if choice&1 == 0 || choice>>(len(values)-1) == 0 {
			continue
		}
		if worst, good := slowWorst(values, keysAt(values, frames...)); !good || worst > most {
			continue
		}
		if best == nil || len(frames) < len(best) || len(frames) == len(best) && slices.Compare(frames, best) < 0 {
			best = frames
		}
	}
	return keysAt(values, best...)
}

// slowFewestKeys gives for each frame the best keys up to it, from the first one on.
func slowFewestKeys(values []int, most int) ([]impl.Key, bool) {
	if !slowGoodKeyValues(values, 1, mostFrames) || most < 0 || most > mostKeyValue {
		return nil, false
	}
	best := [][]int{{0}}
	for to := 1; to < len(values); to++ {
		var found []int
		for from := range to {
			near := true
			for frame := from + 1; frame < to && near; frame++ {
				ends := keysAt(values, from, to)
				off := slowOnWay(ends[0], ends[1], frame) - values[frame]
				near = off <= most && -off <= most
			}
			frames := append(slices.Clone(best[from]), to)
			if near && (found == nil || len(frames) < len(found) || len(frames) == len(found) && slices.Compare(frames, found) < 0) {
				found = frames
			}
		}
		best = append(best, found)
	}
	return keysAt(values, best[len(values)-1]...), true
}

func slowPose(c impl.Clip, frame int) ([]int, bool) {
	if !slowGoodClip(c) || !slices.Contains(counted(c.Frames), frame) {
		return nil, false
	}
	var out []int
	for _, one := range c.Tracks {
		value, _ := slowValueAt(one.Keys, frame)
		out = append(out, value)
	}
	return out, true
}

// slowBlendPose reckons in halves of a part: what is nearest lies below one half more.
func slowBlendPose(a []int, b []int, part int, mask []bool) ([]int, bool) {
	if !slowGoodKeyValues(a, 0, mostTracks) || !slowGoodKeyValues(b, len(a), len(a)) || len(mask) != len(a) || part < 0 || part > wholeOne {
		return nil, false
	}
	var out []int
	for i := range a {
		way := big.NewInt(int64(b[i] - a[i]))
		way.Mul(way, big.NewInt(int64(2*part)))
		way.Add(way, big.NewInt(wholeOne))
		way.Div(way, big.NewInt(2*wholeOne))
		out = append(out, map[bool]int{false: a[i], true: a[i] + int(way.Int64())}[mask[i]])
	}
	return out, true
}

// slowCrossed lays the clip out as often as it goes round, and asks each frame of that.
func slowCrossed(c impl.Clip, from int, steps int) ([]string, int, bool) {
	if !slowGoodClip(c) || !slices.Contains(counted(c.Frames), from) || steps < 0 || steps > mostClipSteps {
		return nil, 0, false
	}
	var out []string
	for round := 0; round*c.Frames <= from+steps; round++ {
		for _, one := range c.Marks {
			if at := round*c.Frames + one.Frame; from < at && at <= from+steps {
				out = append(out, one.Name)
			}
		}
	}
	return out, (from + steps) % c.Frames, true
}

func wantValueAt(t *testing.T, what string, keys []impl.Key, frame int, want int, good bool) {
	t.Helper()
	if got := purely(t, "ValueAt", impl.ValueAt, keys, frame); got[0] != want || got[1] != good {
		t.Errorf("%s: ValueAt %v, %d = %v, want %d, %v", what, keys, frame, got, want, good)
	}
}

func wantFewestKeys(t *testing.T, what string, values []int, most int, want []impl.Key, good bool) {
	t.Helper()
	got := purely(t, "FewestKeys", impl.FewestKeys, values, most)
	if !alike(got[0], want) || got[1] != good {
		t.Errorf("%s: FewestKeys %v, %d = %v, want %v, %v", what, values, most, got, want, good)
	}
}

func wantWorst(t *testing.T, what string, values []int, keys []impl.Key, want int, good bool) {
	t.Helper()
	if got := purely(t, "WorstOf", impl.WorstOf, values, keys); got[0] != want || got[1] != good {
		t.Errorf("%s: WorstOf %v, %v = %v, want %d, %v", what, values, keys, got, want, good)
	}
}

func wantPose(t *testing.T, what string, c impl.Clip, frame int, want []int, good bool) {
	t.Helper()
	got := purely(t, "PoseAt", impl.PoseAt, c, frame)
	if !alike(got[0], want) || got[1] != good {
		t.Errorf("%s: PoseAt %v, %d = %v, want %v, %v", what, c, frame, got, want, good)
	}
}

func wantBlendPose(t *testing.T, what string, a []int, b []int, part int, mask []bool, want []int, good bool) {
	t.Helper()
	got := purely(t, "BlendPose", impl.BlendPose, a, b, part, mask)
	if !alike(got[0], want) || got[1] != good {
		t.Errorf("%s: BlendPose %v, %v, %d, %v = %v, want %v, %v", what, a, b, part, mask, got, want, good)
	}
}

func wantCrossed(t *testing.T, what string, c impl.Clip, from int, steps int, want []string, frame int, good bool) {
	t.Helper()
	got := purely(t, "MarksCrossed", impl.MarksCrossed, c, from, steps)
	if !alike(got[0], want) || got[1] != frame || got[2] != good {
		t.Errorf("%s: MarksCrossed %v, %d, %d = %v, want %v, %d, %v", what, c, from, steps, got, want, frame, good)
	}
}

func TestClipConstants(t *testing.T) {
	got := [3]int{impl.MaxFrames, impl.MaxTracks, impl.MaxKeyValue}
	if got != [3]int{mostFrames, mostTracks, mostKeyValue} {
		t.Error(got)
	}
}

func TestGoodClip(t *testing.T) {
	for what, c := range goodClips() {
		if !slowGoodClip(c) || purely(t, what, impl.GoodClip, c)[0] != true {
			t.Error(what, c, "is not good")
		}
	}
	for what, c := range badClips() {
		if slowGoodClip(c) || purely(t, what, impl.GoodClip, c)[0] != false {
			t.Error(what, c, "is good")
		}
	}
}

func TestValueAt(t *testing.T) {
	told := []struct {
		what  string
		keys  []impl.Key
		frame int
		want  int
	}{
		{"one key, ahead of it", keysOf(7, 5), 0, 5},
		{"one key, at it", keysOf(7, 5), 7, 5},
		{"one key, behind it", keysOf(7, 5), mostFrames - 1, 5},
		{"ahead of the first", keysOf(7, 5, 9, 11), 6, 5},
		{"at the first", keysOf(7, 5, 9, 11), 7, 5},
		{"between", keysOf(7, 5, 9, 11), 8, 8},
		{"at the last", keysOf(7, 5, 9, 11), 9, 11},
		{"behind the last", keysOf(7, 5, 9, 11), 10, 11},
		{"at one in the middle", keysOf(0, 5, 3, -7, 9, 11), 3, -7},
		{"the second way", keysOf(0, 5, 3, -7, 9, 11), 4, -4},
		{"rising, down", keysOf(0, 0, 4, 10), 1, 2},
		{"rising, a half", keysOf(0, 0, 2, 5), 1, 2},
		{"rising, nearly one more", keysOf(0, 0, 4, 3), 1, 0},
		{"rising, nearly all", keysOf(0, 0, 59, 1), 58, 0},
		{"falling, down", keysOf(0, 10, 4, 0), 1, 7},
		{"falling, a half", keysOf(0, 5, 2, 0), 1, 2},
		{"falling, a little", keysOf(0, 3, 59, 2), 1, 2},
		{"falling, nearly all", keysOf(0, 0, 59, -1), 58, -1},
		{"rising below 0", keysOf(0, -10, 4, 0), 1, -8},
		{"rising below 0, a half", keysOf(0, -5, 2, 0), 1, -3},
		{"falling below 0", keysOf(0, -1, 4, -11), 1, -4},
		{"falling below 0, a half", keysOf(0, -1, 2, -6), 1, -4},
		{"rising through 0", keysOf(0, -3, 4, 4), 2, 0},
		{"falling through 0", keysOf(0, 4, 4, -3), 2, 0},
		{"falling through 0, further", keysOf(0, 4, 4, -3), 3, -2},
		{"from least to most", keysOf(0, -mostKeyValue, 59, mostKeyValue), 1, -96611},
		{"from most to least", keysOf(0, mostKeyValue, 59, -mostKeyValue), 1, 96610},
		{"from least to most, nearly", keysOf(0, -mostKeyValue, 59, mostKeyValue), 58, 96610},
		{"one value all the way", keysOf(3, -8, 9, -8), 5, -8},
	}
	for _, c := range told {
		if want, good := slowValueAt(c.keys, c.frame); !good || want != c.want {
			t.Error(c.what, "is told wrongly:", c.want, "and", want)
		}
		wantValueAt(t, c.what, c.keys, c.frame, c.want, true)
	}
	for what, keys := range goodKeyRows() {
		for frame := range mostFrames {
			want, _ := slowValueAt(keys, frame)
			wantValueAt(t, what, keys, frame, want, true)
		}
		for _, frame := range []int{-1, -mostFrames, mostFrames, mostFrames + 1, math.MinInt, math.MaxInt, 1 << 32} {
			wantValueAt(t, what, keys, frame, 0, false)
		}
	}
	for what, keys := range badKeyRows() {
		for _, frame := range []int{-1, 0, 3, 5, mostFrames - 1, mostFrames} {
			wantValueAt(t, what, keys, frame, 0, false)
		}
	}
}

func TestFewestKeys(t *testing.T) {
	straight, teeth := upFromNought(mostFrames, 3), sawTeeth(mostFrames, 10)
	told := []struct {
		what   string
		values []int
		most   int
		frames []int
	}{
		{"one value", []int{5}, 0, []int{0}},
		{"one value, any error", []int{5}, mostKeyValue, []int{0}},
		{"two values", []int{5, 5}, 0, []int{0, 1}},
		{"two values, any error", []int{-mostKeyValue, mostKeyValue}, mostKeyValue, []int{0, 1}},
		{"a bend", []int{0, 1, 2, 3, 10}, 0, []int{0, 3, 4}},
		{"a bend that is near", []int{0, 1, 2, 3, 10}, 3, []int{0, 2, 4}},
		{"a bend that is near enough", []int{0, 1, 2, 3, 10}, 4, []int{0, 4}},
		{"just as far as may be", []int{0, 9, 0}, 9, []int{0, 2}},
		{"one further", []int{0, 10, 0}, 9, []int{0, 1, 2}},
		{"below, as far as may be", []int{0, -9, 0}, 9, []int{0, 2}},
		{"below, one further", []int{0, -10, 0}, 9, []int{0, 1, 2}},
		{"all on one way", straight, 0, []int{0, mostFrames - 1}},
		{"all of one value", make([]int, mostFrames), 0, []int{0, mostFrames - 1}},
		{"no two on one way", teeth, 0, counted(mostFrames)},
		{"no two near one way", teeth, 4, counted(mostFrames)},
		{"all near one way", sawTeeth(mostFrames-1, 10), 10, []int{0, mostFrames - 2}},
		{"rising by halves, down", []int{0, 2, 5, 7, 10}, 0, []int{0, 4}},
		{"rising by halves, not down", []int{0, 3, 5, 8, 10}, 0, []int{0, 1, 3, 4}},
		{"falling by halves, down", []int{10, 7, 5, 2, 0}, 0, []int{0, 4}},
		{"falling by halves, not down", []int{10, 8, 5, 3, 0}, 0, []int{0, 1, 3, 4}},
		{"rising below 0, down", []int{-10, -8, -5, -3, 0}, 0, []int{0, 4}},
		{"falling below 0, down", []int{0, -3, -5, -8, -10}, 0, []int{0, 4}},
		{"two as few, the first one", []int{0, 4, 4, 0}, 2, []int{0, 1, 3}},
		{"three as few, the first one", []int{0, 9, 9, 9, 0}, 6, []int{0, 1, 4}},
		{"the middle one of them alone", []int{0, 9, 9, 9, 0}, 5, []int{0, 2, 4}},
		{"the first one goes not the furthest", []int{0, 0, 0, 8, 8, 8}, 0, []int{0, 2, 3, 5}},
		{"the first two of several", []int{0, 5, 5, 5, 5, 0}, 4, []int{0, 1, 5}},
		{"the greatest error", []int{0, mostKeyValue, -mostKeyValue, 0}, mostKeyValue, []int{0, 3}},
		{"nearly the greatest", []int{0, mostKeyValue, -mostKeyValue, 0}, mostKeyValue - 1, []int{0, 1, 2, 3}},
	}
	for _, c := range told {
		want := keysAt(c.values, c.frames...)
		if other, good := slowFewestKeys(c.values, c.most); !good || !alike(other, want) {
			t.Error(c.what, "is told wrongly:", want, "and", other)
		}
		wantFewestKeys(t, c.what, c.values, c.most, want, true)
	}
}

func TestFewestKeysOfWrongInputs(t *testing.T) {
	values := []int{0, 1, 2, 9}
	for _, most := range []int{-1, mostKeyValue + 1, math.MinInt, math.MaxInt, 1 << 32} {
		wantFewestKeys(t, "most", values, most, nil, false)
	}
	for what, row := range badValueRows() {
		for _, most := range []int{0, 1, mostKeyValue} {
			wantFewestKeys(t, what, row, most, nil, false)
		}
		wantWorst(t, what, row, keysOf(0, 1), 0, false)
		wantWorst(t, what, row, manyKeys(mostFrames), 0, false)
	}
}

// badValueRows holds values that FewestKeys and WorstOf do not take.
func badValueRows() map[string][]int {
	out := map[string][]int{
		"no value":            nil,
		"one too many":        make([]int, mostFrames+1),
		"one too many, teeth": sawTeeth(mostFrames+1, 3),
		"far too many":        make([]int, 4000),
	}
	for _, off := range []int{-mostKeyValue - 1, mostKeyValue + 1, math.MinInt, math.MaxInt, 1 << 32, math.MinInt + 1} {
		out[fmt.Sprint("alone ", off)] = []int{off}
		out[fmt.Sprint("first ", off)] = []int{off, 0, 0}
		out[fmt.Sprint("between ", off)] = []int{0, off, 0}
		out[fmt.Sprint("last ", off)] = []int{0, 0, off}
	}
	return out
}

// Promise 11: none fewer do on short rows, and of as few the first ones are taken: all rows of few
// small values are held against all choices of keys.
func TestNoFewerKeysDoOnShortRows(t *testing.T) {
	counts := map[int]int{}
	for many := 1; many <= 6; many++ {
		rows := 1
		for range many {
			rows *= 4
		}
		for number := range rows {
			values, rest := make([]int, many), number
			for i := range values {
				values[i], rest = rest%4-1, rest/4
			}
			for most := range 2 {
				want := allKeyChoices(values, most)
				got, good := impl.FewestKeys(values, most)
				if !good || !alike(got, want) {
					t.Fatalf("FewestKeys %v, %d = %v, %v, want %v", values, most, got, good, want)
				}
				counts[len(got)]++
			}
		}
	}
	for many := 1; many <= 6; many++ {
		if counts[many] < 4 {
			t.Error(counts)
		}
	}
}

// coinValues gives values out of coins: small steps, long straight ways, or anything in bounds.
func coinValues(next func(int) int, many int) []int {
	var out []int
	kind, at, by := next(4), coinNumber(next, 20), coinNumber(next, 9)
	for range many {
		switch kind {
		case 0:
			at = coinNumber(next, 6)
		case 1:
			at += coinNumber(next, 3)
		case 2:
			if next(5) == 0 {
				by = coinNumber(next, 9)
			}
			at += by
		case 3:
			at = coinNumber(next, 1000) * 100
		}
		out = append(out, at)
	}
	return out
}

// coinMost gives an error that often lets some keys away.
func coinMost(next func(int) int) int {
	return []int{0, 1, next(4), next(12), next(4000), next(1000) * 100, mostKeyValue}[next(7)]
}

// Promise 11: short rows of any values, against all choices of keys.
func TestShortRowsAgainstAllChoices(t *testing.T) {
	counts := map[int]int{}
	for seed := range 1500 {
		next := coinRow(seed + 1)
		values, most := coinValues(next, 1+next(9)), coinMost(next)
		want := allKeyChoices(values, most)
		if other, good := slowFewestKeys(values, most); !good || !alike(other, want) {
			t.Fatal("told wrongly:", values, most, want, other)
		}
		wantFewestKeys(t, "short", values, most, want, true)
		counts[len(want)]++
	}
	for many := 1; many <= 7; many++ {
		if counts[many] < 20 {
			t.Error(counts)
		}
	}
}

// Promise 11: the keys keep the told error at each frame, are of the values, and go from end to end.
func TestFewestKeysKeepTheError(t *testing.T) {
	fewer, all := 0, 0
	for seed := range 500 {
		next := coinRow(seed + 301)
		values, most := coinValues(next, 1+next(mostFrames)), coinMost(next)
		want, _ := slowFewestKeys(values, most)
		wantFewestKeys(t, "long", values, most, want, true)
		keys, _ := impl.FewestKeys(values, most)
		if keys[0].Frame != 0 || keys[len(keys)-1].Frame != len(values)-1 {
			t.Fatal(values, most, keys)
		}
		for _, key := range keys {
			if key.Value != values[key.Frame] {
				t.Fatal(values, most, keys)
			}
		}
		for frame, value := range values {
			if at, good := impl.ValueAt(keys, frame); !good || max(at-value, value-at) > most {
				t.Fatal(values, most, keys, "at", frame, ":", at, good)
			}
		}
		worst, _ := slowWorst(values, keys)
		wantWorst(t, "long", values, keys, worst, true)
		if len(keys) < len(values) {
			fewer++
		} else if len(keys) > 2 {
			all++
		}
	}
	if fewer < 200 || all < 20 {
		t.Error("fewer:", fewer, "all:", all)
	}
}

func TestWorstOf(t *testing.T) {
	values := []int{0, 4, -3, 7, 1}
	told := []struct {
		what   string
		values []int
		keys   []impl.Key
		want   int
	}{
		{"each value is a key", values, keysAt(values, 0, 1, 2, 3, 4), 0},
		{"the ends alone", values, keysAt(values, 0, 4), 7},
		{"one key", values, keysOf(2, 2), 5},
		{"one key far behind", values, keysOf(mostFrames-1, -5), 12},
		{"not from frame 0 on", values, keysOf(1, 4, 4, 1), 6},
		{"at frame 0 alone it is worst", []int{9, 1, 1}, keysOf(1, 1, 2, 1), 8},
		{"at the last alone it is worst", []int{1, 1, 9}, keysOf(0, 1, 1, 1), 8},
		{"keys that end ahead of the last value", values, keysOf(0, 0, 2, -3), 10},
		{"keys that go on behind the last value", []int{0, 0}, keysOf(0, 0, 10, 100), 10},
		{"keys of other values", []int{5}, keysOf(0, -5), 10},
		{"above", []int{0, 0, 0}, keysOf(0, 0, 1, 3, 2, 0), 3},
		{"below", []int{0, 0, 0}, keysOf(0, 0, 1, -3, 2, 0), 3},
		{"down makes it more", []int{0, 0, -1}, keysOf(0, 0, 2, -1), 1},
		{"down makes it less", []int{0, 0, 1}, keysOf(0, 0, 2, 1), 0},
		{"the most", []int{mostKeyValue}, keysOf(0, -mostKeyValue), 2 * mostKeyValue},
		{"the most, the other way", []int{-mostKeyValue, 0}, keysOf(0, mostKeyValue), 2 * mostKeyValue},
		{"all values", upFromNought(mostFrames, 2), keysOf(0, 0, 59, 118), 0},
		{"all values and one off", upFromNought(mostFrames, 2), keysOf(0, 0, 58, 116), 2},
	}
	for _, c := range told {
		if want, good := slowWorst(c.values, c.keys); !good || want != c.want {
			t.Error(c.what, "is told wrongly:", c.want, "and", want)
		}
		wantWorst(t, c.what, c.values, c.keys, c.want, true)
	}
	for what, keys := range goodKeyRows() {
		for _, many := range []int{1, 2, 30, mostFrames} {
			row := sawTeeth(many, 9)
			want, _ := slowWorst(row, keys)
			wantWorst(t, what, row, keys, want, true)
		}
	}
	for what, keys := range badKeyRows() {
		wantWorst(t, what, values, keys, 0, false)
		wantWorst(t, what, make([]int, mostFrames), keys, 0, false)
	}
}

func TestPoseAt(t *testing.T) {
	walk := clip(5, tracks(track("arm", 0, 0, 4, 10), track("leg", 2, 7), track("toe", 1, -1, 3, -6)), marks(mark(2, "step")))
	poses := [][]int{{0, 7, -1}, {2, 7, -1}, {5, 7, -4}, {7, 7, -6}, {10, 7, -6}}
	for frame, pose := range poses {
		wantPose(t, "walk", walk, frame, pose, true)
	}
	for what, c := range goodClips() {
		for frame := range c.Frames {
			want, good := slowPose(c, frame)
			wantPose(t, what, c, frame, want, good)
		}
		for _, frame := range []int{-1, c.Frames, c.Frames + 1, mostFrames, math.MinInt, math.MaxInt} {
			wantPose(t, what, c, frame, nil, false)
		}
	}
	for what, c := range badClips() {
		for _, frame := range []int{-1, 0, 4, c.Frames - 1, c.Frames} {
			wantPose(t, what, c, frame, nil, false)
		}
	}
}

func TestBlendPose(t *testing.T) {
	const half, far = wholeOne / 2, mostKeyValue
	eight, other := upFromNought(mostTracks, 10), make([]int, mostTracks)
	set, unset := make([]bool, mostTracks), make([]bool, mostTracks)
	for i := range set {
		set[i] = true
	}
	told := []struct {
		what string
		a    []int
		b    []int
		part int
		mask []bool
		want []int
	}{
		{"no value", nil, nil, half, nil, nil},
		{"part of 0", []int{5, -5}, []int{9, 9}, 0, []bool{true, true}, []int{5, -5}},
		{"all of it", []int{5, -5}, []int{9, 9}, wholeOne, []bool{true, true}, []int{9, 9}},
		{"a quarter", []int{0, 0}, []int{100, -100}, wholeOne / 4, []bool{true, true}, []int{25, -25}},
		{"halves go up", []int{0, 0, 0, 1, -1}, []int{1, 3, -1, -2, 2}, half, []bool{true, true, true, true, true}, []int{1, 2, 0, 0, 1}},
		{"just below a half", []int{0, 0}, []int{1, -1}, half - 1, []bool{true, true}, []int{0, 0}},
		{"just above a half", []int{0, 0}, []int{1, -1}, half + 1, []bool{true, true}, []int{1, -1}},
		{"the least part", []int{0, far}, []int{far, -far}, 1, []bool{true, true}, []int{2, far - 3}},
		{"some flags", []int{1, 2, 3, 4}, []int{9, 9, 9, 9}, wholeOne, []bool{true, false, false, true}, []int{9, 2, 3, 9}},
		{"no flag", []int{1, 2}, []int{9, 9}, wholeOne, []bool{false, false}, []int{1, 2}},
		{"eight, all set", eight, other, wholeOne, set, other},
		{"eight, none set", eight, other, wholeOne, unset, eight},
		{"the furthest way", []int{-far, far}, []int{far, -far}, wholeOne, []bool{true, true}, []int{far, -far}},
		{"half of the furthest way", []int{-far, far}, []int{far, -far}, half, []bool{true, true}, []int{0, 0}},
		{"one value twice", []int{7}, []int{7}, 12345, []bool{true}, []int{7}},
	}
	for _, c := range told {
		if want, good := slowBlendPose(c.a, c.b, c.part, c.mask); !good || !alike(want, c.want) {
			t.Error(c.what, "is told wrongly:", c.want, "and", want)
		}
		wantBlendPose(t, c.what, c.a, c.b, c.part, c.mask, c.want, true)
	}
}

func TestBlendPoseOfWrongInputs(t *testing.T) {
	one, two := []int{1}, []int{1, 2}
	nine, flags := make([]int, mostTracks+1), make([]bool, mostTracks+1)
	wantBlendPose(t, "one too many", nine, nine, 0, flags, nil, false)
	wantBlendPose(t, "far too many", make([]int, 999), make([]int, 999), 0, make([]bool, 999), nil, false)
	wantBlendPose(t, "a is shorter", one, two, 0, flags[:1], nil, false)
	wantBlendPose(t, "a is shorter than both", one, two, 0, flags[:2], nil, false)
	wantBlendPose(t, "b is shorter", two, one, 0, flags[:2], nil, false)
	wantBlendPose(t, "b is shorter than both", two, one, 0, flags[:1], nil, false)
	wantBlendPose(t, "no a", nil, one, 0, nil, nil, false)
	wantBlendPose(t, "no b", one, nil, 0, flags[:1], nil, false)
	wantBlendPose(t, "a flag too few", two, two, 0, flags[:1], nil, false)
	wantBlendPose(t, "no flag", two, two, 0, nil, nil, false)
	wantBlendPose(t, "a flag too many", two, two, 0, flags[:3], nil, false)
	wantBlendPose(t, "flags alone", nil, nil, 0, flags[:1], nil, false)
	for _, part := range []int{-1, wholeOne + 1, math.MinInt, math.MaxInt, 1 << 32} {
		wantBlendPose(t, "part", two, two, part, flags[:2], nil, false)
		wantBlendPose(t, "part of nothing", nil, nil, part, nil, nil, false)
	}
	for _, off := range []int{-mostKeyValue - 1, mostKeyValue + 1, math.MinInt, math.MaxInt, 1 << 32} {
		for _, flag := range []bool{false, true} {
			for i := range 2 {
				bad := slices.Clone(two)
				bad[i] = off
				wantBlendPose(t, "a", bad, two, 0, []bool{flag, flag}, nil, false)
				wantBlendPose(t, "b", two, bad, 0, []bool{flag, flag}, nil, false)
			}
		}
	}
}

func TestMarksCrossed(t *testing.T) {
	walk := clip(4, nil, marks(mark(0, "left"), mark(2, "right"), mark(2, "swing"), mark(3, "end")))
	once := clip(1, nil, marks(mark(0, "a"), mark(0, "b")))
	told := []struct {
		what  string
		c     impl.Clip
		from  int
		steps int
		want  []string
		frame int
	}{
		{"no step", walk, 2, 0, nil, 2},
		{"one step to none", walk, 0, 1, nil, 1},
		{"one step to two", walk, 1, 1, []string{"right", "swing"}, 2},
		{"not those at from", walk, 2, 1, []string{"end"}, 3},
		{"from the last round to the first", walk, 3, 1, []string{"left"}, 0},
		{"those at from are come to again", walk, 2, 4, []string{"end", "left", "right", "swing"}, 2},
		{"ahead of those at from", walk, 2, 3, []string{"end", "left"}, 1},
		{"round twice", walk, 3, 8, []string{"left", "right", "swing", "end", "left", "right", "swing", "end"}, 3},
		{"no mark", clip(7, nil, nil), 3, mostClipSteps, nil, 1},
		{"one frame, no step", once, 0, 0, nil, 0},
		{"one frame, a step", once, 0, 1, []string{"a", "b"}, 0},
		{"one frame, three steps", once, 0, 3, []string{"a", "b", "a", "b", "a", "b"}, 0},
		{"the longest", clip(mostFrames, nil, marks(mark(mostFrames-1, "z"))), 0, mostFrames - 1, []string{"z"}, mostFrames - 1},
		{"the longest, one step", clip(mostFrames, nil, marks(mark(0, "z"))), mostFrames - 1, 1, []string{"z"}, 0},
	}
	for _, c := range told {
		if want, frame, good := slowCrossed(c.c, c.from, c.steps); !good || !alike(want, c.want) || frame != c.frame {
			t.Error(c.what, "is told wrongly:", c.want, c.frame, "and", want, frame)
		}
		wantCrossed(t, c.what, c.c, c.from, c.steps, c.want, c.frame, true)
	}
	for what, c := range goodClips() {
		for _, from := range []int{0, c.Frames / 2, c.Frames - 1} {
			for _, steps := range []int{0, 1, c.Frames, 3*c.Frames + 1, mostClipSteps} {
				want, frame, good := slowCrossed(c, from, steps)
				wantCrossed(t, what, c, from, steps, want, frame, good)
			}
		}
		for _, from := range []int{-1, c.Frames, c.Frames + 1, math.MinInt, math.MaxInt} {
			wantCrossed(t, what, c, from, 1, nil, 0, false)
			wantCrossed(t, what, c, from, 0, nil, 0, false)
		}
		for _, steps := range []int{-1, mostClipSteps + 1, math.MinInt, math.MaxInt, 1 << 32} {
			wantCrossed(t, what, c, 0, steps, nil, 0, false)
		}
	}
	for what, c := range badClips() {
		for _, steps := range []int{-1, 0, 1, 9} {
			wantCrossed(t, what, c, 0, steps, nil, 0, false)
		}
	}
}

// coinKeys gives good keys out of coins, below that many frames.
func coinKeys(next func(int) int, frames int) []impl.Key {
	var out []impl.Key
	rarely := 1 + next(9)
	for frame := range frames {
		if next(rarely) == 0 {
			out = append(out, impl.Key{Frame: frame, Value: coinValues(next, 1)[0]})
		}
	}
	if len(out) == 0 {
		return keysOf(next(frames), coinNumber(next, 50))
	}
	return out
}

// coinClip gives a good clip out of coins.
func coinClip(next func(int) int) impl.Clip {
	c := impl.Clip{Frames: 1 + next([]int{6, mostFrames}[next(2)])}
	for _, name := range manyNames(next(mostTracks + 1)) {
		c.Tracks = append(c.Tracks, impl.Track{Name: name, Keys: coinKeys(next, c.Frames)})
	}
	for frame := range c.Frames {
		for _, name := range fewNames {
			if next(5) == 0 && len(c.Marks) < mostMarks && !slices.Contains(c.Marks, mark(frame, name)) {
				c.Marks = append(c.Marks, mark(frame, name))
			}
		}
	}
	slices.SortFunc(c.Marks, func(a impl.Mark, b impl.Mark) int {
		if a.Frame != b.Frame {
			return a.Frame - b.Frame
		}
		return slices.Compare([]byte(a.Name), []byte(b.Name))
	})
	return c
}

func TestClipsByCoins(t *testing.T) {
	crossed, turned := 0, 0
	for seed := range 1200 {
		next := coinRow(seed + 51)
		c := coinClip(next)
		if !slowGoodClip(c) || purely(t, "GoodClip", impl.GoodClip, c)[0] != true {
			t.Fatal(c)
		}
		from, steps := next(c.Frames), next([]int{9, mostClipSteps + 1}[next(2)])
		pose, good := slowPose(c, from)
		wantPose(t, "coins", c, from, pose, good)
		names, frame, good := slowCrossed(c, from, steps)
		wantCrossed(t, "coins", c, from, steps, names, frame, good)
		if len(names) > 0 {
			crossed++
		}
		if from+steps >= c.Frames {
			turned++
		}
		// A way in two pieces comes to the same marks.
		piece := next(steps + 1)
		first, between, _ := impl.MarksCrossed(c, from, piece)
		second, end, _ := impl.MarksCrossed(c, between, steps-piece)
		if end != frame || !alike(append(first, second...), names) {
			t.Fatal(c, from, steps, piece, first, second, names)
		}
		other, _ := slowPose(c, next(c.Frames))
		mask := make([]bool, len(pose))
		for i := range mask {
			mask[i] = next(3) > 0
		}
		part := min(wholeOne, []int{0, wholeOne, wholeOne / 2, next(4000) * 17}[next(4)])
		blend, good := slowBlendPose(pose, other, part, mask)
		wantBlendPose(t, "coins", pose, other, part, mask, blend, good)
	}
	if crossed < 400 || turned < 400 {
		t.Error("crossed:", crossed, "turned:", turned)
	}
}

func TestValuesOfKeysByCoins(t *testing.T) {
	for seed := range 400 {
		next := coinRow(seed + 71)
		keys, values := coinKeys(next, 1+next(mostFrames)), coinValues(next, 1+next(mostFrames))
		for frame := -1; frame <= mostFrames; frame++ {
			want, good := slowValueAt(keys, frame)
			wantValueAt(t, "coins", keys, frame, want, good)
		}
		worst, good := slowWorst(values, keys)
		wantWorst(t, "coins", values, keys, worst, good)
	}
}

// spoiledClip gives the clip with something in it that may be not good.
func spoiledClip(c impl.Clip, next func(int) int) impl.Clip {
	off := []int{0, -1, 1, 2, mostFrames - 1, mostFrames, mostFrames + 1, mostKeyValue, mostKeyValue + 1, -mostKeyValue - 1, c.Frames, c.Frames - 1, math.MinInt, math.MaxInt}[next(14)]
	name := append(badNames(), "a", "n00", "zz", longName)[next(15)]
	tracked, marked := len(c.Tracks) > 0, len(c.Marks) > 0
	switch kind := next(9); {
	case kind == 0:
		c.Frames = off
	case kind == 1 && tracked:
		c.Tracks[next(len(c.Tracks))].Name = name
	case kind == 2 && tracked:
		keys := c.Tracks[next(len(c.Tracks))].Keys
		keys[next(len(keys))].Frame = off
	case kind == 3 && tracked:
		keys := c.Tracks[next(len(c.Tracks))].Keys
		keys[next(len(keys))].Value = off
	case kind == 4 && tracked:
		c.Tracks[next(len(c.Tracks))].Keys = nil
	case kind == 5 && marked:
		c.Marks[next(len(c.Marks))].Frame = off
	case kind == 6 && marked:
		c.Marks[next(len(c.Marks))].Name = name
	case kind == 7 && marked:
		c.Marks = append(c.Marks, c.Marks[next(len(c.Marks))])
	case kind == 8 && tracked:
		c.Tracks = append(c.Tracks, c.Tracks[next(len(c.Tracks))])
	}
	return c
}

func TestClipsAnswerAtAnyArguments(t *testing.T) {
	kinds := [2]int{}
	for seed := range 2500 {
		next := coinRow(seed + 91)
		c := spoiledClip(coinClip(next), next)
		odd := []int{-1, 0, 1, mostFrames - 1, mostFrames, c.Frames, mostClipSteps, mostClipSteps + 1, mostKeyValue, mostKeyValue + 1, math.MinInt, math.MaxInt}
		frame, steps, most := odd[next(len(odd))], odd[next(len(odd))], odd[next(len(odd))]
		if next(2) == 0 {
			frame = next(9)
		}
		good := slowGoodClip(c)
		if got := purely(t, "GoodClip", impl.GoodClip, c); got[0] != good {
			t.Fatalf("GoodClip %v = %v", c, got)
		}
		kinds[bits.Len(map[bool]uint{true: 1}[good])]++
		pose, posed := slowPose(c, frame)
		wantPose(t, "any", c, frame, pose, posed)
		names, end, come := slowCrossed(c, frame, steps)
		wantCrossed(t, "any", c, frame, steps, names, end, come)
		values := coinValues(next, next(9))
		if len(values) > 0 && next(2) == 0 {
			values[next(len(values))] = odd[next(len(odd))]
		}
		fewest, found := slowFewestKeys(values, most)
		wantFewestKeys(t, "any", values, most, fewest, found)
		for _, one := range c.Tracks {
			value, valued := slowValueAt(one.Keys, frame)
			wantValueAt(t, "any", one.Keys, frame, value, valued)
			worst, held := slowWorst(values, one.Keys)
			wantWorst(t, "any", values, one.Keys, worst, held)
		}
		mask := make([]bool, next(9))
		blend, blended := slowBlendPose(values, pose, most, mask)
		wantBlendPose(t, "any", values, pose, most, mask, blend, blended)
		blend, blended = slowBlendPose(values, values, most, mask)
		wantBlendPose(t, "any", values, values, most, mask, blend, blended)
	}
	if kinds[0] < 500 || kinds[1] < 500 {
		t.Error("bad and good:", kinds)
	}
}

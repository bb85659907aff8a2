package tests

import (
	"fmt"
	"math/big"
	"slices"
	"strings"
	"testing"

	"loop.example/g00064/impl"
)

const mostVoices = 8
const mostSound = 200
const mostSample = 32767
const mostBeats = 64
const mostRank = 100
const mostRunBeats = 1000

// voice gives one that sounds in both ears as it is, once.
func voice(samples ...int) impl.Voice {
	return impl.Voice{Samples: samples, Left: impl.One, Right: impl.One}
}

func looped(v impl.Voice) impl.Voice {
	v.Loop = true
	return v
}

func voiceAt(v impl.Voice, at int) impl.Voice {
	v.At = at
	return v
}

func gained(v impl.Voice, left int, right int) impl.Voice {
	v.Left, v.Right = left, right
	return v
}

func ranked(v impl.Voice, rank int) impl.Voice {
	v.Rank = rank
	return v
}

// choir gives voices of one sample each, with these ranks.
func choir(ranks ...int) []impl.Voice {
	var out []impl.Voice
	for i, rank := range ranks {
		out = append(out, ranked(voice(i+1), rank))
	}
	return out
}

// section reads a section: its name, how many beats, its exits, its next one.
func section(name string, beats int, next string, exits ...int) impl.Section {
	return impl.Section{Name: name, Beats: beats, Exits: exits, Next: next}
}

// song has sections with exits at the first beat, in the midst, at the last one, and nowhere.
func song() []impl.Section {
	return []impl.Section{
		section("intro", 3, "verse"),
		section("verse", 4, "verse", 0, 2),
		section("chorus", 2, "verse", 1),
		section("outro", 1, "outro"),
		section("bridge", 5, "chorus", 0, 1, 2, 3, 4),
	}
}

func musicAt(name string, beat int, want string) impl.Music {
	return impl.Music{Section: name, Beat: beat, Want: want}
}

func within(least int, x int, most int) bool { return least <= x && x <= most }

func slowGoodVoice(v impl.Voice) bool {
	good := within(1, len(v.Samples), 200) && within(0, v.At, len(v.Samples)-1) && within(0, v.Rank, 100) &&
		within(0, v.Left, 65536) && within(0, v.Right, 65536)
	for _, sample := range v.Samples {
		good = good && within(-32767, sample, 32767)
	}
	return good
}

func slowGoodVoices(l []impl.Voice) bool {
	return len(l) <= 8 && !slices.ContainsFunc(l, func(v impl.Voice) bool { return !slowGoodVoice(v) })
}

// slowCutSample cuts a sum of whole numbers without end.
func slowCutSample(sum *big.Int) int {
	if sum.Cmp(big.NewInt(mostSample)) > 0 {
		return mostSample
	}
	if sum.Cmp(big.NewInt(-mostSample)) < 0 {
		return -mostSample
	}
	return int(sum.Int64())
}

// slowPlace gives the number of the sample that a voice sounds some samples from now on; -1 where it sounds no more.
func slowPlace(v impl.Voice, later int) int {
	if at := v.At + later; v.Loop || at < len(v.Samples) {
		return at % len(v.Samples)
	}
	return -1
}

// slowMix asks of each sample by itself, from the beginning, what each voice sounds there.
func slowMix(l []impl.Voice, many int) (impl.Heard, []impl.Voice, bool) {
	var heard impl.Heard
	if !slowGoodVoices(l) || !within(0, many, mostSound) {
		return heard, nil, false
	}
	for i := range many {
		left, right := new(big.Int), new(big.Int)
		for _, v := range l {
			if at := slowPlace(v, i); at >= 0 {
				left.Add(left, big.NewInt(int64(nearestCut(bigMul(v.Samples[at], v.Left), big.NewInt(65536)))))
				right.Add(right, big.NewInt(int64(nearestCut(bigMul(v.Samples[at], v.Right), big.NewInt(65536)))))
			}
		}
		heard.Left = append(heard.Left, slowCutSample(left))
		heard.Right = append(heard.Right, slowCutSample(right))
	}
	var still []impl.Voice
	for _, v := range l {
		if at := slowPlace(v, many); at >= 0 {
			still = append(still, voiceAt(v, at))
		}
	}
	return heard, still, true
}

func slowTake(l []impl.Voice, v impl.Voice) ([]impl.Voice, int, bool) {
	if !slowGoodVoices(l) || !slowGoodVoice(v) {
		return nil, 0, false
	}
	if len(l) < mostVoices {
		return append(slices.Clone(l), v), -1, true
	}
	for rank := range v.Rank + 1 {
		for i := range l {
			if l[i].Rank == rank {
				return slices.Concat(l[:i], []impl.Voice{v}, l[i+1:]), i, true
			}
		}
	}
	return l, -2, true
}

// slowGains reckons with whole numbers without end.
func slowGains(x int, y int, far int) (int, int, bool) {
	if !within(-farFixed, x, farFixed) || !within(-farFixed, y, farFixed) || !within(65536, far, farFixed) {
		return 0, 0, false
	}
	root := new(big.Int).Sqrt(new(big.Int).Add(bigMul(x, x), bigMul(y, y)))
	d := min(int(root.Int64()), farFixed)
	g, p := 0, 0
	if d < far {
		g = 65536 - nearestCut(bigMul(d, 65536), big.NewInt(int64(far)))
	}
	if d != 0 {
		p = max(-65536, min(nearestCut(bigMul(x, 65536), big.NewInt(int64(d))), 65536))
	}
	// Both halves are from 0 on, so that they are cut off downwards.
	left, right := (65536-p)/2, (65536+p)/2
	return nearestCut(bigMul(g, left), big.NewInt(65536)), nearestCut(bigMul(g, right), big.NewInt(65536)), true
}

func sectionNames(l []impl.Section) []string {
	var out []string
	for _, s := range l {
		out = append(out, s.Name)
	}
	return out
}

func slowGoodSections(l []impl.Section) bool {
	names := sectionNames(l)
	good := within(1, len(l), 64)
	for i, s := range l {
		good = good && slowGoodName(s.Name) && slices.Index(names, s.Name) == i && within(1, s.Beats, 64)
		good = good && slices.Contains(names, s.Next)
		for j, exit := range s.Exits {
			good = good && within(0, exit, s.Beats-1) && (j == 0 || s.Exits[j-1] < exit)
		}
	}
	return good
}

func slowGoodMusic(l []impl.Section, m impl.Music) bool {
	names := sectionNames(l)
	at := slices.Index(names, m.Section)
	return slowGoodSections(l) && at >= 0 && within(0, m.Beat, l[at].Beats-1) && slices.Contains(append(names, ""), m.Want)
}

func slowAsk(l []impl.Section, m impl.Music, name string) (impl.Music, bool) {
	if !slowGoodMusic(l, m) || !slices.Contains(sectionNames(l), name) {
		return impl.Music{}, false
	}
	return musicAt(m.Section, m.Beat, name), true
}

// slowRunMusic goes from one leaving to the next: it looks ahead for the beat at which the section is left, and
// writes down all beats up to there at once.
func slowRunMusic(l []impl.Section, m impl.Music, beats int) (impl.Music, []string, bool) {
	if !slowGoodMusic(l, m) || !within(0, beats, mostRunBeats) {
		return impl.Music{}, nil, false
	}
	var heard []string
	for len(heard) < beats {
		s := l[slices.Index(sectionNames(l), m.Section)]
		until, then := s.Beats, musicAt(s.Next, 0, m.Want)
		if m.Want != "" {
			for _, exit := range slices.Backward(s.Exits) {
				if exit >= m.Beat {
					until, then = exit, musicAt(m.Want, 0, "")
				}
			}
		}
		for m.Beat < until && len(heard) < beats {
			heard = append(heard, fmt.Sprint(m.Section, ":", m.Beat))
			m.Beat++
		}
		// An exit that is reached behind the last beat asked for is taken only when that beat comes.
		if m.Beat == until && (until == s.Beats || len(heard) < beats) {
			m = then
		}
	}
	return m, heard, true
}

func wantGoodVoice(t *testing.T, what string, v impl.Voice, want bool) {
	t.Helper()
	if got := purely(t, "GoodVoice", impl.GoodVoice, v); got[0] != want || slowGoodVoice(v) != want {
		t.Errorf("%s: GoodVoice %v = %v, want %v", what, v, got, want)
	}
}

func wantMix(t *testing.T, what string, l []impl.Voice, many int, heard impl.Heard, still []impl.Voice, good bool) {
	t.Helper()
	got := purely(t, "MixVoices", impl.MixVoices, l, many)
	if !alike(got[0], heard) || !alike(got[1], still) || got[2] != good {
		t.Errorf("%s: MixVoices %v, %d = %v, want %v, %v, %v", what, l, many, got, heard, still, good)
	}
}

// wantSlowMix asks for what the slow one gives.
func wantSlowMix(t *testing.T, what string, l []impl.Voice, many int) {
	t.Helper()
	heard, still, good := slowMix(l, many)
	wantMix(t, what, l, many, heard, still, good)
}

func wantTake(t *testing.T, what string, l []impl.Voice, v impl.Voice, want []impl.Voice, at int, good bool) {
	t.Helper()
	got := purely(t, "TakeVoice", impl.TakeVoice, l, v)
	if !alike(got[0], want) || got[1] != at || got[2] != good {
		t.Errorf("%s: TakeVoice %v, %v = %v, want %v, %v, %v", what, l, v, got, want, at, good)
	}
}

func wantGains(t *testing.T, what string, x int, y int, far int, left int, right int, good bool) {
	t.Helper()
	if got := purely(t, "GainsAt", impl.GainsAt, x, y, far); got[0] != left || got[1] != right || got[2] != good {
		t.Errorf("%s: GainsAt %d, %d, %d = %v, want %d, %d, %v", what, x, y, far, got, left, right, good)
	}
}

func wantGoodMusic(t *testing.T, what string, l []impl.Section, m impl.Music, want bool) {
	t.Helper()
	if got := purely(t, "GoodMusic", impl.GoodMusic, l, m); got[0] != want || slowGoodMusic(l, m) != want {
		t.Errorf("%s: GoodMusic %v, %v = %v, want %v", what, l, m, got, want)
	}
}

func wantAsk(t *testing.T, what string, l []impl.Section, m impl.Music, name string, want impl.Music, good bool) {
	t.Helper()
	if got := purely(t, "AskMusic", impl.AskMusic, l, m, name); got[0] != want || got[1] != good {
		t.Errorf("%s: AskMusic %v, %v, %q = %v, want %v, %v", what, l, m, name, got, want, good)
	}
}

func wantRunMusic(t *testing.T, what string, l []impl.Section, m impl.Music, beats int, then impl.Music, heard []string, good bool) {
	t.Helper()
	got := purely(t, "RunMusic", impl.RunMusic, l, m, beats)
	if got[0] != then || !alike(got[1], heard) || got[2] != good {
		t.Errorf("%s: RunMusic %v, %v, %d = %v, want %v, %v, %v", what, l, m, beats, got, then, heard, good)
	}
}

// wantSlowRunMusic asks for what the slow one gives.
func wantSlowRunMusic(t *testing.T, what string, l []impl.Section, m impl.Music, beats int) {
	t.Helper()
	then, heard, good := slowRunMusic(l, m, beats)
	wantRunMusic(t, what, l, m, beats, then, heard, good)
}

// goodSounds holds voices at each limit that the document names.
func goodSounds() map[string]impl.Voice {
	return map[string]impl.Voice{
		"one sample of 0":        {Samples: []int{0}},
		"one sample":             voice(5),
		"that loops":             looped(voice(5, 6)),
		"the greatest sample":    voice(mostSample),
		"the least sample":       voice(-mostSample),
		"as many as may be":      voice(counted(mostSound)...),
		"at the last of many":    voiceAt(voice(counted(mostSound)...), mostSound-1),
		"at the first":           voiceAt(voice(1, 2, 3), 0),
		"at the last":            voiceAt(voice(1, 2, 3), 2),
		"Left 0":                 gained(voice(1, 2), 0, 5),
		"Left One":               gained(voice(1, 2), 65536, 5),
		"Right 0":                gained(voice(1, 2), 5, 0),
		"Right One":              gained(voice(1, 2), 5, 65536),
		"both 0":                 gained(voice(1, 2), 0, 0),
		"Rank 0":                 ranked(voice(1), 0),
		"Rank 100":               ranked(voice(1), 100),
		"the extremes in a row":  voice(-mostSample, 0, mostSample),
		"the last, which loops":  looped(voiceAt(voice(1, 2), 1)),
		"a great one that loops": looped(voice(slices.Repeat([]int{-mostSample}, mostSound)...)),
	}
}

// badSounds holds voices that are not good, in each way that the document names.
func badSounds() map[string]impl.Voice {
	out := map[string]impl.Voice{
		"nothing":                 {},
		"no samples":              gained(voice(), 1, 1),
		"no samples, At -1":       voiceAt(voice(), -1),
		"one too many samples":    voice(counted(mostSound + 1)...),
		"far too many":            voice(make([]int, 5000)...),
		"At the last and one":     voiceAt(voice(1, 2, 3), 3),
		"At one and one":          voiceAt(voice(1), 1),
		"At behind the most":      voiceAt(voice(counted(mostSound)...), mostSound),
		"a looped one behind":     looped(voiceAt(voice(1, 2), 2)),
		"a sample too great last": voice(append(counted(mostSound-1), mostSample+1)...),
	}
	for _, far := range append(farNumbers(), -1, 1<<32, -1<<32) {
		out[fmt.Sprint("At ", far)] = voiceAt(voice(1, 2, 3), far)
		out[fmt.Sprint("Left ", far)] = gained(voice(1, 2), far, 5)
		out[fmt.Sprint("Right ", far)] = gained(voice(1, 2), 5, far)
		out[fmt.Sprint("Rank ", far)] = ranked(voice(1, 2), far)
	}
	for _, gain := range []int{65537, -65536, 131072} {
		out[fmt.Sprint("Left ", gain)] = gained(voice(1, 2), gain, 65536)
		out[fmt.Sprint("Right ", gain)] = gained(voice(1, 2), 65536, gain)
	}
	for _, rank := range []int{101, -100, 1000} {
		out[fmt.Sprint("Rank ", rank)] = ranked(voice(1, 2), rank)
	}
	for _, sample := range append(farNumbers(), mostSample+1, -mostSample-1, 65535, 1<<32) {
		out[fmt.Sprint("the only sample ", sample)] = voice(sample)
		out[fmt.Sprint("the first sample ", sample)] = voice(sample, 1, 2)
		out[fmt.Sprint("the last sample ", sample)] = voice(0, 1, sample)
		out[fmt.Sprint("a sample gone by ", sample)] = voiceAt(voice(0, sample, 1), 2)
	}
	return out
}

func TestVoiceConstants(t *testing.T) {
	if impl.MaxVoices != mostVoices || impl.MaxSound != mostSound || impl.MaxSample != mostSample || impl.MaxBeats != mostBeats {
		t.Error(impl.MaxVoices, impl.MaxSound, impl.MaxSample, impl.MaxBeats)
	}
}

func TestGoodVoice(t *testing.T) {
	for what, v := range goodSounds() {
		wantGoodVoice(t, what, v, true)
	}
	for what, v := range badSounds() {
		wantGoodVoice(t, what, v, false)
	}
}

func TestMixTold(t *testing.T) {
	half := impl.One / 2
	for _, c := range []struct {
		what  string
		l     []impl.Voice
		many  int
		left  []int
		right []int
		still []impl.Voice
	}{
		{"no voice", nil, 2, []int{0, 0}, []int{0, 0}, nil},
		{"no voice, nothing", nil, 0, nil, nil, nil},
		{"nothing of one", []impl.Voice{voice(7)}, 0, nil, nil, []impl.Voice{voice(7)}},
		{"one of one", []impl.Voice{voice(7)}, 1, []int{7}, []int{7}, nil},
		{"one of two", []impl.Voice{voice(7, 8)}, 1, []int{7}, []int{7}, []impl.Voice{voiceAt(voice(7, 8), 1)}},
		{"just all", []impl.Voice{voice(7, 8)}, 2, []int{7, 8}, []int{7, 8}, nil},
		{"one more", []impl.Voice{voice(7, 8)}, 3, []int{7, 8, 0}, []int{7, 8, 0}, nil},
		{"from the midst", []impl.Voice{voiceAt(voice(7, 8, 9), 1)}, 1, []int{8}, []int{8}, []impl.Voice{voiceAt(voice(7, 8, 9), 2)}},
		{"from the last", []impl.Voice{voiceAt(voice(7, 8, 9), 2)}, 2, []int{9, 0}, []int{9, 0}, nil},
		{"a loop, nothing", []impl.Voice{looped(voiceAt(voice(7, 8), 1))}, 0, nil, nil, []impl.Voice{looped(voiceAt(voice(7, 8), 1))}},
		{"a loop, just all", []impl.Voice{looped(voice(7, 8))}, 2, []int{7, 8}, []int{7, 8}, []impl.Voice{looped(voice(7, 8))}},
		{"a loop, once over", []impl.Voice{looped(voice(7, 8))}, 3, []int{7, 8, 7}, []int{7, 8, 7}, []impl.Voice{looped(voiceAt(voice(7, 8), 1))}},
		{"a loop, several times", []impl.Voice{looped(voiceAt(voice(7, 8, 9), 2))}, 6, []int{9, 7, 8, 9, 7, 8}, []int{9, 7, 8, 9, 7, 8}, []impl.Voice{looped(voiceAt(voice(7, 8, 9), 2))}},
		{"a loop of one", []impl.Voice{looped(voice(7))}, 3, []int{7, 7, 7}, []int{7, 7, 7}, []impl.Voice{looped(voice(7))}},
		{"left alone", []impl.Voice{gained(voice(100, 200), impl.One, 0)}, 3, []int{100, 200, 0}, []int{0, 0, 0}, nil},
		{"right alone", []impl.Voice{gained(voice(100, 200), 0, impl.One)}, 3, []int{0, 0, 0}, []int{100, 200, 0}, nil},
		{"neither", []impl.Voice{gained(voice(100, 200), 0, 0)}, 1, []int{0}, []int{0}, []impl.Voice{gained(voiceAt(voice(100, 200), 1), 0, 0)}},
		{"halves go to the greater", []impl.Voice{gained(voice(3, -3, 1, -1), half, half-1)}, 4, []int{2, -1, 1, 0}, []int{1, -1, 0, 0}, nil},
		{"each voice is rounded by itself", []impl.Voice{gained(voice(1), half, 0), gained(voice(1), half, 0), gained(voice(-1), half, 0)}, 1, []int{2}, []int{0}, nil},
		{"a sum", []impl.Voice{voice(1, 2), voice(10), looped(voice(100))}, 3, []int{111, 102, 100}, []int{111, 102, 100}, []impl.Voice{looped(voice(100))}},
		{"at the greatest", []impl.Voice{voice(mostSample - 1), voice(1)}, 1, []int{mostSample}, []int{mostSample}, nil},
		{"above the greatest", []impl.Voice{voice(mostSample), voice(1)}, 1, []int{mostSample}, []int{mostSample}, nil},
		{"at the least", []impl.Voice{voice(1 - mostSample), voice(-1)}, 1, []int{-mostSample}, []int{-mostSample}, nil},
		{"below the least", []impl.Voice{voice(-mostSample), voice(-1)}, 1, []int{-mostSample}, []int{-mostSample}, nil},
		{"above and back", []impl.Voice{voice(mostSample), voice(100), voice(-300)}, 1, []int{mostSample - 200}, []int{mostSample - 200}, nil},
		{"below and back", []impl.Voice{voice(-mostSample), voice(-100), voice(300)}, 1, []int{200 - mostSample}, []int{200 - mostSample}, nil},
		{"above in one ear", []impl.Voice{gained(voice(30000), impl.One, half), gained(voice(30000), impl.One, half)}, 1, []int{mostSample}, []int{30000}, nil},
		{"a cut one does not stay", []impl.Voice{voice(mostSample, 1), voice(mostSample, 2)}, 2, []int{mostSample, 3}, []int{mostSample, 3}, nil},
	} {
		heard := impl.Heard{Left: c.left, Right: c.right}
		wantMix(t, c.what, c.l, c.many, heard, c.still, true)
		if slow, still, good := slowMix(c.l, c.many); !alike(slow, heard) || !alike(still, c.still) || !good {
			t.Error(c.what, slow, still, good)
		}
	}
}

func TestMixOfVoicesThatEnd(t *testing.T) {
	l := []impl.Voice{voice(1), looped(voice(2, 3)), voice(4, 5), voice(6, 7, 8), looped(voice(9)), voice(10, 11)}
	wantMix(t, "the first one ends", l, 1, impl.Heard{Left: []int{32}, Right: []int{32}},
		[]impl.Voice{looped(voiceAt(voice(2, 3), 1)), voiceAt(voice(4, 5), 1), voiceAt(voice(6, 7, 8), 1), looped(voice(9)), voiceAt(voice(10, 11), 1)}, true)
	wantMix(t, "two more end", l, 2, impl.Heard{Left: []int{32, 35}, Right: []int{32, 35}},
		[]impl.Voice{looped(voice(2, 3)), voiceAt(voice(6, 7, 8), 2), looped(voice(9))}, true)
	wantMix(t, "those that loop stay", l, 3, impl.Heard{Left: []int{32, 35, 19}, Right: []int{32, 35, 19}},
		[]impl.Voice{looped(voiceAt(voice(2, 3), 1)), looped(voice(9))}, true)
	for many := range mostSound + 1 {
		wantSlowMix(t, "so many", l, many)
	}
	kept := looped(impl.Voice{Samples: []int{5, 6}, At: 1, Left: 7, Right: 8, Rank: 9})
	wantMix(t, "all else stays", []impl.Voice{voice(1), kept}, 3, impl.Heard{Left: []int{1, 0, 0}, Right: []int{1, 0, 0}}, []impl.Voice{voiceAt(kept, 0)}, true)
}

func TestMixAtTheLimits(t *testing.T) {
	var loud, quietOnes, ends []impl.Voice
	for i := range mostVoices {
		loud = append(loud, looped(voice(mostSample, -mostSample)))
		quietOnes = append(quietOnes, gained(looped(voice(i+1, -i)), 1+i, impl.One-i))
		ends = append(ends, voice(counted(mostSound-4+i)...))
	}
	for _, l := range [][]impl.Voice{loud, quietOnes, ends} {
		for _, many := range []int{0, 1, 2, mostSound - 1, mostSound} {
			wantSlowMix(t, "as many as may be", l, many)
			wantMix(t, "one voice too many", append(slices.Clone(l), voice(1)), many, impl.Heard{}, nil, false)
		}
	}
	whole := voice(counted(mostSound)...)
	wantMix(t, "all of the longest", []impl.Voice{whole}, mostSound, impl.Heard{Left: counted(mostSound), Right: counted(mostSound)}, nil, true)
	for what, v := range goodSounds() {
		for _, many := range []int{0, 1, 2, 3, 7, mostSound} {
			wantSlowMix(t, what, []impl.Voice{v}, many)
			wantSlowMix(t, what, []impl.Voice{voice(1, 2), v, looped(voice(3))}, many)
		}
	}
}

func TestMixOfWrongInputs(t *testing.T) {
	for _, l := range [][]impl.Voice{nil, {voice(1)}, choir(1, 2, 3)} {
		for _, many := range append(farNumbers(), -1, mostSound+1, -mostSound, 1<<32, 1<<32+1) {
			wantMix(t, "no such number", l, many, impl.Heard{}, nil, false)
		}
	}
	for what, v := range badSounds() {
		for _, many := range []int{0, 1, mostSound} {
			wantMix(t, what, []impl.Voice{v}, many, impl.Heard{}, nil, false)
			wantMix(t, what, []impl.Voice{voice(1), looped(voice(2)), v}, many, impl.Heard{}, nil, false)
			wantMix(t, what, []impl.Voice{v, voice(1)}, many, impl.Heard{}, nil, false)
		}
	}
	wantMix(t, "far too many", choir(make([]int, 1000)...), 1, impl.Heard{}, nil, false)
}

func coinVoice(next func(int) int) impl.Voice {
	var v impl.Voice
	great := []int{3, 300, mostSample}[next(3)]
	for range 1 + next([]int{4, 12, mostSound}[next(3)]) {
		v.Samples = append(v.Samples, (next(4096)*8+next(8))%(2*great+1)-great)
	}
	v.At, v.Loop, v.Rank = next(len(v.Samples)), next(2) == 0, next(mostRank+1)
	v.Left, v.Right = coinGain(next), coinGain(next)
	return v
}

func coinGain(next func(int) int) int {
	return []int{0, 1, impl.One / 2, impl.One - 1, impl.One, next(4096) * 16, next(4096)*16 + next(16)}[next(7)]
}

func coinVoices(next func(int) int, many int) []impl.Voice {
	var out []impl.Voice
	for range many {
		out = append(out, coinVoice(next))
	}
	return out
}

func TestMixOfCoins(t *testing.T) {
	for seed := range 600 {
		next := coinRow(seed + 1500)
		wantSlowMix(t, "coins", coinVoices(next, next(mostVoices+1)), next(mostSound+1))
	}
}

// wantMixInPieces mixes first so many, then the others.
func wantMixInPieces(t *testing.T, l []impl.Voice, many int, cut int) {
	t.Helper()
	whole, end, good := impl.MixVoices(l, many)
	first, mid, goodFirst := impl.MixVoices(l, cut)
	second, last, goodSecond := impl.MixVoices(mid, many-cut)
	joined := impl.Heard{Left: slices.Concat(first.Left, second.Left), Right: slices.Concat(first.Right, second.Right)}
	if !good || !goodFirst || !goodSecond || !alike(whole, joined) || !alike(end, last) {
		t.Fatalf("%v, %d: cut at %d: %v, %v and %v, %v", l, many, cut, whole, end, joined, last)
	}
}

// Promise 15.
func TestSamplesMixedInPiecesAreTheSame(t *testing.T) {
	told := []impl.Voice{voice(1), looped(voice(2, 3)), voiceAt(voice(4, 5, 6), 1), looped(voice(7, 8, 9)), voice(mostSample, mostSample, -mostSample)}
	for many := range 30 {
		for cut := range many + 1 {
			wantMixInPieces(t, told, many, cut)
		}
	}
	for seed := range 30 {
		next := coinRow(seed + 1515)
		l := coinVoices(next, 1+next(mostVoices))
		for cut := range mostSound + 1 {
			wantMixInPieces(t, l, mostSound, cut)
		}
	}
}

func TestMixOneByOne(t *testing.T) {
	for seed := range 40 {
		l := coinVoices(coinRow(seed+1551), mostVoices)
		whole, end, _ := impl.MixVoices(l, mostSound)
		var left, right []int
		for range mostSound {
			heard, still, good := impl.MixVoices(l, 1)
			if !good || len(heard.Left) != 1 || len(heard.Right) != 1 {
				t.Fatal(l, heard, good)
			}
			left, right, l = append(left, heard.Left[0]), append(right, heard.Right[0]), still
		}
		if !slices.Equal(left, whole.Left) || !slices.Equal(right, whole.Right) || !alike(l, end) {
			t.Fatal(seed, left, right, whole, l, end)
		}
	}
}

func TestTakeTold(t *testing.T) {
	fresh := impl.Voice{Samples: []int{70, 71}, At: 1, Loop: true, Left: 3, Right: 4, Rank: 50}
	full := func(ranks ...int) []impl.Voice { return choir(ranks...) }
	for _, c := range []struct {
		what  string
		ranks []int
		rank  int
		at    int
	}{
		{"no voice", nil, 50, -1},
		{"one of a greater Rank", []int{90}, 50, -1},
		{"one less than the most", []int{1, 2, 3, 4, 5, 6, 7}, 50, -1},
		{"one less than the most, Rank 0", []int{1, 2, 3, 4, 5, 6, 7}, 0, -1},
		{"the least below, the first one", []int{10, 60, 60, 60, 60, 60, 60, 60}, 50, 0},
		{"the least below, the last one", []int{60, 60, 60, 60, 60, 60, 60, 10}, 50, 7},
		{"the least below, in the midst", []int{60, 60, 20, 10, 20, 60, 60, 60}, 50, 3},
		{"one below", []int{60, 60, 60, 49, 60, 60, 60, 60}, 50, 3},
		{"the same", []int{60, 60, 60, 50, 60, 60, 60, 60}, 50, 3},
		{"one above", []int{60, 60, 60, 51, 60, 60, 60, 60}, 50, -2},
		{"all above", []int{60, 61, 62, 63, 64, 65, 66, 67}, 50, -2},
		{"all the same", []int{50, 50, 50, 50, 50, 50, 50, 50}, 50, 0},
		{"several of the least", []int{60, 40, 50, 40, 60, 40, 50, 60}, 50, 1},
		{"several of the least, the same", []int{60, 60, 50, 60, 60, 50, 50, 60}, 50, 2},
		{"several of the least, above", []int{60, 51, 60, 51, 60, 51, 60, 60}, 50, -2},
		{"all 0", []int{0, 0, 0, 0, 0, 0, 0, 0}, 0, 0},
		{"all 100", []int{100, 100, 100, 100, 100, 100, 100, 100}, 100, 0},
		{"all 100 and 99", []int{100, 100, 100, 100, 100, 100, 100, 100}, 99, -2},
		{"falling", []int{8, 7, 6, 5, 4, 3, 2, 1}, 1, 7},
		{"rising", []int{1, 2, 3, 4, 5, 6, 7, 8}, 100, 0},
		{"the first below is not the least", []int{30, 20, 40, 10, 30, 20, 40, 10}, 50, 3},
	} {
		l, v := full(c.ranks...), ranked(fresh, c.rank)
		want := full(c.ranks...)
		if c.at == -1 {
			want = append(want, v)
		} else if c.at >= 0 {
			want[c.at] = v
		}
		wantTake(t, c.what, l, v, want, c.at, true)
		if slow, at, good := slowTake(l, v); !alike(slow, want) || at != c.at || !good {
			t.Error(c.what, slow, at, good)
		}
	}
}

func TestTakeOfWrongInputs(t *testing.T) {
	for _, l := range [][]impl.Voice{nil, choir(1, 2), choir(1, 2, 3, 4, 5, 6, 7, 8), choir(1, 2, 3, 4, 5, 6, 7, 100)} {
		for what, v := range badSounds() {
			wantTake(t, what, l, v, nil, 0, false)
			if len(l) > 0 {
				spoilt := slices.Clone(l)
				spoilt[len(l)-1] = v
				wantTake(t, what, spoilt, voice(1), nil, 0, false)
			}
		}
		for what, v := range goodSounds() {
			want, at, _ := slowTake(l, v)
			wantTake(t, what, l, v, want, at, true)
		}
	}
	wantTake(t, "one voice too many", choir(1, 2, 3, 4, 5, 6, 7, 8, 9), ranked(voice(1), 100), nil, 0, false)
	wantTake(t, "far too many", choir(make([]int, 1000)...), ranked(voice(1), 100), nil, 0, false)
}

func TestTakeOfCoins(t *testing.T) {
	for seed := range 1500 {
		next := coinRow(seed + 1600)
		l, v := coinVoices(next, mostVoices-next(2)*next(mostVoices+1)), coinVoice(next)
		ranks := 1 + next(mostRank+1)
		v.Rank = next(ranks)
		for i := range l {
			l[i].Rank = min(l[i].Rank%ranks+next(20), mostRank)
		}
		want, at, good := slowTake(l, v)
		wantTake(t, "coins", l, v, want, at, good)
	}
}

func TestGainsTold(t *testing.T) {
	const one = impl.One
	for _, c := range []struct {
		what  string
		x     int
		y     int
		far   int
		left  int
		right int
	}{
		{"at the ears", 0, 0, one, one / 2, one / 2},
		{"at the ears, far", 0, 0, farFixed, one / 2, one / 2},
		{"on the right", one, 0, 2 * one, 0, one / 2},
		{"on the left", -one, 0, 2 * one, one / 2, 0},
		{"ahead", 0, one, 2 * one, one / 4, one / 4},
		{"behind", 0, -one, 2 * one, one / 4, one / 4},
		{"just within", one - 1, 0, one, 0, 1},
		{"just within on the left", 1 - one, 0, one, 1, 0},
		{"just within ahead", 0, one - 1, one, 1, 1},
		{"at far", one, 0, one, 0, 0},
		{"at far on the left", -one, 0, one, 0, 0},
		{"beyond", one + 1, 0, one, 0, 0},
		{"at far, aslant", 3 * one, -4 * one, 5 * one, 0, 0},
		{"just within, aslant", 3 * one, -4 * one, 5*one + 1, 0, 0},
		{"aslant on the right", 3 * one, 4 * one, 10 * one, 6554, 26215},
		{"aslant on the left", -3 * one, 4 * one, 10 * one, 26215, 6554},
		{"as near as may be", 1, 0, one, 0, one - 1},
		{"as near as may be on the left", -1, 0, one, one - 1, 0},
		{"a corner", 1, 1, one, 0, one - 1},
		{"so near that far does not tell", 1, 0, farFixed, 0, one},
		{"the farthest of all", farFixed, 0, farFixed, 0, 0},
		{"the farthest corner", -farFixed, farFixed, farFixed, 0, 0},
		{"just within the farthest", farFixed - 1, 0, farFixed, 0, 0},
		{"at half the farthest", farFixed / 2, 0, farFixed, 0, one / 2},
		{"at half the farthest on the left", -farFixed / 2, 0, farFixed, one / 2, 0},
	} {
		wantGains(t, c.what, c.x, c.y, c.far, c.left, c.right, true)
		if left, right, good := slowGains(c.x, c.y, c.far); left != c.left || right != c.right || !good {
			t.Error(c.what, left, right, good)
		}
	}
}

func TestGainsOfWrongInputs(t *testing.T) {
	for _, x := range notFixed() {
		wantGains(t, "no fixed x", x, 0, farFixed, 0, 0, false)
		wantGains(t, "no fixed y", 0, x, farFixed, 0, 0, false)
		wantGains(t, "neither", x, x, impl.One, 0, 0, false)
	}
	for _, far := range append(notFixed(), impl.One-1, 1, 0, -1, -impl.One, farFixed+1) {
		wantGains(t, "no far", 0, 0, far, 0, 0, false)
		wantGains(t, "no far", impl.One, 5, far, 0, 0, false)
		wantGains(t, "no far", farFixed, farFixed, far, 0, 0, false)
	}
	wantGains(t, "the least far", 0, 0, impl.One, 32768, 32768, true)
	wantGains(t, "the greatest far", 0, 0, farFixed, 32768, 32768, true)
}

func TestGainsExactly(t *testing.T) {
	spread := []int{0, 1, 2, 3, 5, 100, 32767, 32768, 46341, 65535, 65536, 65537, 131072, 1 << 20, 1<<31 - 1, 1 << 39, farFixed - 1, farFixed}
	for _, x := range spread {
		for _, y := range spread {
			for _, far := range []int{65536, 65537, 92681, 92682, 131073, 1 << 20, 1<<20 + 1, 1 << 35, farFixed - 1, farFixed} {
				for _, side := range []int{x, -x} {
					left, right, good := slowGains(side, y, far)
					wantGains(t, "exactly", side, y, far, left, right, good)
					wantGains(t, "exactly, behind", side, -y, far, left, right, good)
				}
			}
		}
	}
	for seed := range 3000 {
		next := coinRow(seed + 1700)
		reach := 1 << (3 + next(30))
		x, y := coinNumber(next, 2000)*reach/2000+coinNumber(next, 9), coinNumber(next, 2000)*reach/2000+coinNumber(next, 9)
		far := impl.One + next(4096)*max(1, reach/2048)
		left, right, good := slowGains(x, y, far)
		wantGains(t, "coins", x, y, far, left, right, good)
	}
}

// manySections gives so many, each one's next the one behind it, the last one's the first.
func manySections(many int) []impl.Section {
	var out []impl.Section
	names := manyNames(many)
	for i, name := range names {
		out = append(out, section(name, 1+i%3, names[(i+1)%many], i%(1+i%3)))
	}
	return out
}

// withSection gives the song with another section in one place.
func withSection(at int, s impl.Section) []impl.Section {
	out := song()
	out[at] = s
	return out
}

// goodSongs holds sections at each limit that the document names; each has music at its first one.
func goodSongs() map[string][]impl.Section {
	return map[string][]impl.Section{
		"a song":               song(),
		"one of one beat":      {section("a", 1, "a")},
		"one with an exit":     {section("a", 1, "a", 0)},
		"one of the most":      {section("a", mostBeats, "a")},
		"all beats exits":      {section("a", mostBeats, "a", counted(mostBeats)...)},
		"the last an exit":     {section("a", mostBeats, "a", mostBeats-1)},
		"the first and last":   {section("a", 7, "a", 0, 6)},
		"as many as may be":    manySections(mostBeats),
		"a long name":          {section(longName, 2, "_", 1), section("_", 1, longName)},
		"names that are near":  {section("a", 2, "A", 1), section("A", 1, "aa"), section("aa", 1, "a")},
		"none comes back":      {section("a", 2, "b"), section("b", 2, "b")},
		"the first one's next": {section("a", 2, "b"), section("b", 2, "a")},
	}
}

// badSongs holds sections that are not good, in each way that the document names; music at "intro" or at the
// first one would be good otherwise.
func badSongs() map[string][]impl.Section {
	out := map[string][]impl.Section{
		"none":                     {},
		"one too many":             manySections(mostBeats + 1),
		"far too many":             manySections(1000),
		"two alike":                append(song(), section("verse", 4, "verse", 0, 2)),
		"two with one name":        append(song(), section("verse", 1, "intro")),
		"two with the first name":  append(song(), section("intro", 9, "verse")),
		"a Next that is no Name":   withSection(3, section("outro", 1, "nowhere")),
		"a Next that is empty":     withSection(3, section("outro", 1, "")),
		"a Next in other letters":  withSection(3, section("outro", 1, "Verse")),
		"the first with no Next":   withSection(0, section("intro", 3, "nowhere")),
		"one section with no Next": {section("a", 1, "b")},
	}
	for i, name := range badNames() {
		out[fmt.Sprint("a bad name ", i)] = append(song(), section(name, 1, "verse"))
		out[fmt.Sprint("a bad name that is Next ", i)] = append(withSection(3, section("outro", 1, name)), section(name, 1, name))
		out[fmt.Sprint("a bad name alone ", i)] = []impl.Section{section(name, 1, name)}
	}
	for _, beats := range append(farNumbers(), -1, 0, mostBeats+1, -mostBeats, 1<<32, 1<<32+1) {
		out[fmt.Sprint("Beats ", beats)] = withSection(3, section("outro", beats, "outro"))
		out[fmt.Sprint("the first one's Beats ", beats)] = withSection(0, section("intro", beats, "verse"))
	}
	exits := map[string][]int{
		"falling":      {2, 1},
		"alike":        {1, 1},
		"alike at 0":   {0, 0},
		"late alike":   {0, 1, 2, 2},
		"coming back":  {0, 2, 1},
		"-1":           {-1},
		"from -1 on":   {-1, 0},
		"up to Beats":  {0, 1, 2, 3},
		"Beats":        {3},
		"one too many": {0, 1, 2, 3, 4},
		"of many":      make([]int, 1000),
	}
	for _, far := range append(farNumbers(), 1<<32, 64) {
		exits[fmt.Sprint(far)] = []int{far}
		exits[fmt.Sprint("0 and ", far)] = []int{0, far}
	}
	for what, list := range exits {
		out["Exits "+what] = withSection(3, section("outro", 3, "outro", list...))
		out["the first one's Exits "+what] = withSection(0, section("intro", 3, "verse", list...))
	}
	return out
}

// badTunes holds music that is not good for the song.
func badTunes() map[string]impl.Music {
	out := map[string]impl.Music{
		"nothing":                   {},
		"no Section":                musicAt("", 0, "verse"),
		"a Section that is none":    musicAt("nowhere", 0, ""),
		"a Section, other letters":  musicAt("Verse", 0, ""),
		"a Section, cut":            musicAt("vers", 0, ""),
		"a Section, longer":         musicAt("verse ", 0, ""),
		"a Want that is none":       musicAt("verse", 0, "nowhere"),
		"a Want in other letters":   musicAt("verse", 0, "Chorus"),
		"a Want of a blank":         musicAt("verse", 0, " "),
		"a Beat of another section": musicAt("chorus", 3, ""),
		"a beat behind the last":    musicAt("outro", 1, ""),
	}
	for _, beat := range append(farNumbers(), -1, 4, 5, 64, 1<<32) {
		out[fmt.Sprint("Beat ", beat)] = musicAt("verse", beat, "")
		out[fmt.Sprint("Beat ", beat, " with a Want")] = musicAt("verse", beat, "chorus")
	}
	for i, name := range badNames() {
		out[fmt.Sprint("a Section that is no name ", i)] = musicAt(name, 0, "")
		if name != "" {
			out[fmt.Sprint("a Want that is no name ", i)] = musicAt("verse", 0, name)
		}
	}
	return out
}

func TestGoodMusic(t *testing.T) {
	for what, l := range goodSongs() {
		for _, s := range l {
			wantGoodMusic(t, what, l, musicAt(s.Name, 0, ""), true)
			wantGoodMusic(t, what, l, musicAt(s.Name, s.Beats-1, s.Name), true)
			wantGoodMusic(t, what, l, musicAt(s.Name, 0, l[0].Name), true)
			wantGoodMusic(t, what, l, musicAt(s.Name, s.Beats, ""), false)
			wantGoodMusic(t, what, l, musicAt(s.Name, -1, ""), false)
		}
	}
	for what, l := range badSongs() {
		for _, m := range []impl.Music{{}, musicAt("intro", 0, ""), musicAt("verse", 1, "chorus")} {
			wantGoodMusic(t, what, l, m, false)
		}
		if len(l) > 0 {
			wantGoodMusic(t, what, l, musicAt(l[0].Name, 0, ""), false)
			wantGoodMusic(t, what, l, musicAt(l[len(l)-1].Name, 0, l[0].Name), false)
		}
	}
	for what, m := range badTunes() {
		wantGoodMusic(t, what, song(), m, false)
	}
}

func TestAskMusic(t *testing.T) {
	l := song()
	for _, s := range l {
		for beat := range s.Beats {
			for _, want := range append(sectionNames(l), "") {
				m := musicAt(s.Name, beat, want)
				for _, name := range sectionNames(l) {
					wantAsk(t, "a Name", l, m, name, musicAt(s.Name, beat, name), true)
				}
				for _, name := range append(badNames(), "nowhere", "Verse", "vers", "verse_") {
					wantAsk(t, "no Name", l, m, name, impl.Music{}, false)
				}
			}
		}
	}
	for what, sections := range badSongs() {
		wantAsk(t, what, sections, musicAt("intro", 0, ""), "intro", impl.Music{}, false)
		if len(sections) > 0 {
			first := sections[0].Name
			wantAsk(t, what, sections, musicAt(first, 0, ""), first, impl.Music{}, false)
		}
	}
	for what, m := range badTunes() {
		wantAsk(t, what, l, m, "verse", impl.Music{}, false)
	}
}

func TestRunMusicTold(t *testing.T) {
	for _, c := range []struct {
		what  string
		m     impl.Music
		then  impl.Music
		heard string
	}{
		{"no beat", musicAt("verse", 3, "chorus"), musicAt("verse", 3, "chorus"), ""},
		{"no beat at an exit", musicAt("verse", 2, "chorus"), musicAt("verse", 2, "chorus"), ""},
		{"one beat", musicAt("verse", 0, ""), musicAt("verse", 1, ""), "verse:0"},
		{"the last beat", musicAt("verse", 3, ""), musicAt("verse", 0, ""), "verse:3"},
		{"Next is the same", musicAt("verse", 2, ""), musicAt("verse", 2, ""), "verse:2 verse:3 verse:0 verse:1"},
		{"Next is another", musicAt("intro", 1, ""), musicAt("verse", 2, ""), "intro:1 intro:2 verse:0 verse:1"},
		{"one beat for ever", musicAt("outro", 0, ""), musicAt("outro", 0, ""), "outro:0 outro:0 outro:0"},
		{"an exit at once", musicAt("verse", 2, "chorus"), musicAt("chorus", 1, ""), "chorus:0"},
		{"an exit at once, and on", musicAt("verse", 2, "chorus"), musicAt("verse", 1, ""), "chorus:0 chorus:1 verse:0"},
		{"an exit later", musicAt("verse", 1, "chorus"), musicAt("chorus", 1, ""), "verse:1 chorus:0"},
		{"ahead of the exit", musicAt("verse", 1, "chorus"), musicAt("verse", 2, "chorus"), "verse:1"},
		{"an exit at beat 0, at once", musicAt("verse", 0, "intro"), musicAt("intro", 1, ""), "intro:0"},
		{"an exit at beat 0, round", musicAt("verse", 3, "intro"), musicAt("intro", 1, ""), "verse:3 intro:0"},
		{"an exit at beat 0 of Next", musicAt("intro", 1, "bridge"), musicAt("bridge", 1, ""), "intro:1 intro:2 bridge:0"},
		{"an exit at the last beat", musicAt("chorus", 0, "outro"), musicAt("outro", 0, ""), "chorus:0 outro:0"},
		{"an exit at the last beat, at once", musicAt("chorus", 1, "outro"), musicAt("outro", 0, ""), "outro:0"},
		{"never", musicAt("outro", 0, "verse"), musicAt("outro", 0, "verse"), "outro:0 outro:0"},
		{"no exit, but Next", musicAt("intro", 0, "verse"), musicAt("verse", 1, ""), "intro:0 intro:1 intro:2 verse:0"},
		{"Next is what is wanted still", musicAt("intro", 2, "verse"), musicAt("verse", 0, "verse"), "intro:2"},
		{"itself", musicAt("verse", 1, "verse"), musicAt("verse", 2, ""), "verse:1 verse:0 verse:1"},
		{"itself at once", musicAt("bridge", 4, "bridge"), musicAt("bridge", 2, ""), "bridge:0 bridge:1"},
		{"itself at beat 0", musicAt("bridge", 0, "bridge"), musicAt("bridge", 1, ""), "bridge:0"},
		{"one of one beat", musicAt("bridge", 3, "outro"), musicAt("outro", 0, ""), "outro:0 outro:0"},
		{"the wanted one's own exits", musicAt("bridge", 3, "verse"), musicAt("verse", 3, ""), "verse:0 verse:1 verse:2"},
		{"the wanted one's Next", musicAt("verse", 2, "intro"), musicAt("verse", 1, ""), "intro:0 intro:1 intro:2 verse:0"},
		{"behind an exit", musicAt("chorus", 0, ""), musicAt("verse", 1, ""), "chorus:0 chorus:1 verse:0"},
	} {
		heard := strings.Fields(c.heard)
		wantRunMusic(t, c.what, song(), c.m, len(heard), c.then, heard, true)
		if then, slow, good := slowRunMusic(song(), c.m, len(heard)); then != c.then || !alike(slow, heard) || !good {
			t.Error(c.what, then, slow, good)
		}
	}
}

// tunesOf gives all music of some sections.
func tunesOf(l []impl.Section) []impl.Music {
	var out []impl.Music
	for _, s := range l {
		for beat := range s.Beats {
			for _, want := range append(sectionNames(l), "") {
				out = append(out, musicAt(s.Name, beat, want))
			}
		}
	}
	return out
}

func TestRunMusicOfAllTunes(t *testing.T) {
	for _, m := range tunesOf(song()) {
		for beats := range 12 {
			wantSlowRunMusic(t, "a song", song(), m, beats)
		}
	}
	for what, l := range goodSongs() {
		for _, s := range l[:min(3, len(l))] {
			for _, want := range []string{"", l[0].Name, l[len(l)-1].Name} {
				for _, beats := range []int{0, 1, 2, 63, 64, 65, 200} {
					wantSlowRunMusic(t, what, l, musicAt(s.Name, s.Beats-1, want), beats)
				}
			}
		}
	}
}

// All sections of up to three beats, by all their exits, with each thing wanted.
func TestRunMusicOfAllExits(t *testing.T) {
	for beats := 1; beats <= 3; beats++ {
		for bits := range 1 << beats {
			var exits []int
			for beat := range beats {
				if bits>>beat&1 == 1 {
					exits = append(exits, beat)
				}
			}
			l := []impl.Section{section("a", beats, "b", exits...), section("b", 2, "a"), section("c", 1, "a", 0)}
			for _, m := range tunesOf(l) {
				for many := range 9 {
					wantSlowRunMusic(t, "all exits", l, m, many)
				}
			}
		}
	}
}

func TestRunMusicLongest(t *testing.T) {
	for _, m := range []impl.Music{musicAt("intro", 0, ""), musicAt("outro", 0, "verse"), musicAt("bridge", 4, "chorus")} {
		for _, beats := range []int{999, 1000, 1001} {
			wantSlowRunMusic(t, "the longest", song(), m, beats)
		}
	}
	then, heard, good := impl.RunMusic(song(), musicAt("verse", 0, ""), mostRunBeats)
	if then != musicAt("verse", 0, "") || len(heard) != mostRunBeats || heard[999] != "verse:3" || !good {
		t.Error(then, len(heard), good)
	}
	long := []impl.Section{section("a", mostBeats, "a")}
	wantRunMusic(t, "two digits", long, musicAt("a", 62, ""), 3, musicAt("a", 1, ""), []string{"a:62", "a:63", "a:0"}, true)
}

func TestRunMusicOfWrongInputs(t *testing.T) {
	for _, beats := range append(farNumbers(), -1, mostRunBeats+1, -mostRunBeats, 1<<32, 1<<32+1) {
		wantRunMusic(t, "no such number", song(), musicAt("verse", 1, ""), beats, impl.Music{}, nil, false)
		wantRunMusic(t, "no such number", song(), musicAt("verse", 1, "chorus"), beats, impl.Music{}, nil, false)
	}
	for what, l := range badSongs() {
		for _, beats := range []int{0, 1, 5} {
			wantRunMusic(t, what, l, musicAt("intro", 0, ""), beats, impl.Music{}, nil, false)
			if len(l) > 0 {
				wantRunMusic(t, what, l, musicAt(l[0].Name, 0, ""), beats, impl.Music{}, nil, false)
				wantRunMusic(t, what, l, musicAt(l[len(l)-1].Name, 0, ""), beats, impl.Music{}, nil, false)
			}
		}
	}
	for what, m := range badTunes() {
		for _, beats := range []int{0, 1, 5} {
			wantRunMusic(t, what, song(), m, beats, impl.Music{}, nil, false)
		}
	}
}

func coinSong(next func(int) int) []impl.Section {
	var out []impl.Section
	names := manyNames(1 + next(6))
	for _, name := range names {
		s := section(name, 1+next(6), names[next(len(names))])
		for beat := range s.Beats {
			if next(3) == 0 {
				s.Exits = append(s.Exits, beat)
			}
		}
		out = append(out, s)
	}
	return out
}

func coinMusic(next func(int) int, l []impl.Section) impl.Music {
	s := l[next(len(l))]
	wants := append(sectionNames(l), "")
	return musicAt(s.Name, next(s.Beats), wants[next(len(wants))])
}

// leftOnlyAtExits follows what was heard beat by beat: each is the next beat, or the wanted section begins where
// that next beat is an exit.
func leftOnlyAtExits(l []impl.Section, m impl.Music, heard []string) bool {
	names := sectionNames(l)
	at, beat, want := slices.Index(names, m.Section), m.Beat, m.Want
	for _, text := range heard {
		next := fmt.Sprint(names[at], ":", beat)
		leaves := want != "" && slices.Contains(l[at].Exits, beat)
		if leaves {
			next = want + ":0"
			at, beat, want = slices.Index(names, want), 0, ""
		}
		if text != next {
			return false
		}
		if beat++; beat == l[at].Beats {
			at, beat = slices.Index(names, l[at].Next), 0
		}
	}
	return true
}

// Promise 15.
func TestMusicLeavesAtExitsOnly(t *testing.T) {
	for seed := range 1500 {
		next := coinRow(seed + 1800)
		l := coinSong(next)
		m := coinMusic(next, l)
		for range 4 {
			beats := next(12)
			then, heard, good := impl.RunMusic(l, m, beats)
			if !good || len(heard) != beats || !leftOnlyAtExits(l, m, heard) {
				t.Fatal(l, m, beats, heard, good)
			}
			wantSlowRunMusic(t, "coins", l, m, beats)
			asked, good := impl.AskMusic(l, then, l[next(len(l))].Name)
			if !good || asked.Section != then.Section || asked.Beat != then.Beat {
				t.Fatal(l, then, asked, good)
			}
			m = asked
		}
	}
}

// wantMusicInPieces runs first so many beats, then the others.
func wantMusicInPieces(t *testing.T, l []impl.Section, m impl.Music, beats int, cut int) {
	t.Helper()
	whole, heard, good := impl.RunMusic(l, m, beats)
	mid, first, goodFirst := impl.RunMusic(l, m, cut)
	last, second, goodSecond := impl.RunMusic(l, mid, beats-cut)
	if !good || !goodFirst || !goodSecond || whole != last || !alike(heard, slices.Concat(first, second)) {
		t.Fatalf("%v, %v, %d: cut at %d: %v, %v and %v, %v, %v", l, m, beats, cut, whole, heard, last, first, second)
	}
}

func TestBeatsRunInPiecesAreTheSame(t *testing.T) {
	for _, m := range tunesOf(song()) {
		for cut := range 21 {
			wantMusicInPieces(t, song(), m, 20, cut)
		}
	}
	for seed := range 200 {
		next := coinRow(seed + 1900)
		l := coinSong(next)
		m := coinMusic(next, l)
		for cut := range 41 {
			wantMusicInPieces(t, l, m, 40, cut)
		}
	}
	for cut := range mostRunBeats + 1 {
		wantMusicInPieces(t, song(), musicAt("intro", 1, "outro"), mostRunBeats, cut)
	}
}

// strangeSound gives a number at or beyond a limit of this chapter, or a small one.
func strangeSound(next func(int) int) int {
	odd := append(farNumbers(), -1, 0, 1, 2, 3, 63, 64, 65, 100, 101, mostSound, mostSound+1, mostRunBeats, mostRunBeats+1,
		mostSample, mostSample+1, -mostSample, -mostSample-1, impl.One-1, impl.One, impl.One+1, farFixed, -farFixed, 1<<32)
	return odd[next(len(odd))]
}

// spoiledVoice gives a voice with something in it that may be not good.
func spoiledVoice(v impl.Voice, next func(int) int) impl.Voice {
	v.Samples = slices.Clone(v.Samples)
	switch next(6) {
	case 0:
		v.Samples = v.Samples[:next(len(v.Samples))]
	case 1:
		v.Samples[next(len(v.Samples))] = strangeSound(next)
	case 2:
		v.At = strangeSound(next)
	case 3:
		v.Left = strangeSound(next)
	case 4:
		v.Right = strangeSound(next)
	default:
		v.Rank = strangeSound(next)
	}
	return v
}

// spoiledSong gives sections with something in them that may be not good.
func spoiledSong(l []impl.Section, next func(int) int) []impl.Section {
	l = slices.Clone(l)
	s := &l[next(len(l))]
	switch next(5) {
	case 0:
		s.Name = append(badNames(), "n00", "n01")[next(len(badNames())+2)]
	case 1:
		s.Beats = strangeSound(next)
	case 2:
		s.Exits = append(slices.Clone(s.Exits), strangeSound(next))
	case 3:
		s.Next = append(badNames(), "n00", "n09")[next(len(badNames())+2)]
	default:
		l = l[:next(len(l))]
	}
	return l
}

// Promise 29.
func TestVoicesAnswerAtAnyArguments(t *testing.T) {
	kinds := map[string]int{}
	for seed := range 2500 {
		next := coinRow(seed + 2915)
		voices, v, many := coinVoices(next, next(mostVoices+2)), coinVoice(next), next(mostSound+1)
		if next(4) == 0 {
			v = spoiledVoice(v, next)
		}
		if len(voices) > 0 && next(4) == 0 {
			at := next(len(voices))
			voices[at] = spoiledVoice(voices[at], next)
		}
		if next(4) == 0 {
			many = strangeSound(next)
		}
		l := coinSong(next)
		m, name, beats := coinMusic(next, l), l[next(len(l))].Name, next(30)
		if next(4) == 0 {
			l = spoiledSong(l, next)
		}
		if next(4) == 0 {
			m.Beat, beats = strangeSound(next), strangeSound(next)
		}
		if next(8) == 0 {
			name, m.Want = badNames()[next(len(badNames()))], badNames()[next(len(badNames()))]
		}
		kinds[fmt.Sprint("voices ", slowGoodVoices(voices))]++
		kinds[fmt.Sprint("music ", slowGoodMusic(l, m))]++
		wantGoodVoice(t, "any", v, slowGoodVoice(v))
		wantSlowMix(t, "any", voices, many)
		taken, at, good := slowTake(voices, v)
		wantTake(t, "any", voices, v, taken, at, good)
		x, y, far := strangeSound(next), strangeSound(next), strangeSound(next)
		left, right, good := slowGains(x, y, far)
		wantGains(t, "any", x, y, far, left, right, good)
		wantGoodMusic(t, "any", l, m, slowGoodMusic(l, m))
		asked, good := slowAsk(l, m, name)
		wantAsk(t, "any", l, m, name, asked, good)
		wantSlowRunMusic(t, "any", l, m, beats)
	}
	for _, kind := range []string{"voices true", "voices false", "music true", "music false"} {
		if kinds[kind] < 400 {
			t.Error(kinds)
		}
	}
}

package tests

import (
	"bytes"
	"encoding/binary"
	"fmt"
	"hash/fnv"
	"math"
	"math/big"
	"slices"
	"strings"
	"testing"

	"loop.example/g00064/impl"
)

const mostAssets = 30
const mostNeeds = 10
const mostBytes = 400
const mostBudget = 100000
const mostHeld = 1000

// assetsOf reads assets out of words like `a:b,c=xyz`: a name, what it needs, and its data.
func assetsOf(text string) []impl.Asset {
	var out []impl.Asset
	for _, word := range strings.Fields(text) {
		head, data, _ := strings.Cut(word, "=")
		name, needs, some := strings.Cut(head, ":")
		a := impl.Asset{Name: name, Data: []byte(data)}
		if some {
			a.Needs = strings.Split(needs, ",")
		}
		out = append(out, a)
	}
	return out
}

func namesOfAssets(l []impl.Asset) []string {
	var out []string
	for _, a := range l {
		out = append(out, a.Name)
	}
	return out
}

// manyAssets gives assets that need nothing.
func manyAssets(many int) []impl.Asset {
	var out []impl.Asset
	for _, name := range manyNames(many) {
		out = append(out, impl.Asset{Name: name})
	}
	return out
}

// chained gives assets in which each needs the one so many places on, over the end if it is a ring.
func chained(many int, step int, ring bool) []impl.Asset {
	out := manyAssets(many)
	for i := range out {
		at := i + step
		if ring {
			at = (at + many) % many
		}
		if within(0, at, many-1) {
			out[i].Needs = []string{out[at].Name}
		}
	}
	return out
}

// laddered gives assets in which each needs as many of those behind it as it may.
func laddered(many int) []impl.Asset {
	out := manyAssets(many)
	for i := range out {
		for _, a := range out[i+1 : min(i+1+mostNeeds, many)] {
			out[i].Needs = append(out[i].Needs, a.Name)
		}
	}
	return out
}

func copiedAssets(l []impl.Asset) []impl.Asset {
	out := slices.Clone(l)
	for i := range out {
		out[i].Needs, out[i].Data = slices.Clone(out[i].Needs), slices.Clone(out[i].Data)
	}
	return out
}

func goodAssetLists() map[string][]impl.Asset {
	needing := manyAssets(12)
	needing[11].Needs = manyNames(mostNeeds)
	full := manyAssets(mostAssets)
	for i := range full {
		full[i].Data = bytes.Repeat([]byte{byte(i)}, mostBytes)
	}
	return map[string][]impl.Asset{
		"no asset":                      nil,
		"one":                           assetsOf("a"),
		"one with data":                 assetsOf("a=b"),
		"one after the other":           assetsOf("a:b b:c c"),
		"back":                          assetsOf("a b:a c:b"),
		"by two ways":                   assetsOf("a:b,c b:d c:d d"),
		"all of the others":             assetsOf("a:b,c,d b:c,d c:d d"),
		"names of any kind":             assetsOf("A Z9:A,a _:_1 _1 a a_:aa aa z" + longName[1:] + ":A,_,a"),
		"names alike at their ends":     assetsOf("a aa ab b:ab ba"),
		"as many as may be":             manyAssets(mostAssets),
		"one fewer":                     manyAssets(mostAssets - 1),
		"as many, one after the other":  chained(mostAssets, 1, false),
		"as many, back":                 chained(mostAssets, -1, false),
		"as many needs as may be":       needing,
		"as many ways as may be":        laddered(mostAssets),
		"as many bytes as may be":       {{Name: "a", Data: make([]byte, mostBytes)}},
		"as many bytes, in each of all": full,
		"data of any bytes":             {{Name: "a", Data: []byte{0, 255, 10}}, {Name: "b", Data: []byte("a\x00b\xff")}},
	}
}

func badAssetLists() map[string][]impl.Asset {
	tooMany := manyAssets(12)
	tooMany[11].Needs = manyNames(mostNeeds + 1)
	big := manyAssets(mostAssets)
	big[mostAssets-1].Data = make([]byte, mostBytes+1)
	return map[string][]impl.Asset{
		"one too many":              manyAssets(mostAssets + 1),
		"far too many":              manyAssets(1000),
		"an empty name":             assetsOf("a :a"),
		"no name at all":            {{}},
		"a digit first":             assetsOf("1a"),
		"a name too long":           assetsOf(longName + "z"),
		"a byte of no name":         assetsOf("a-b"),
		"a rune of no name":         assetsOf("é"),
		"the last name":             assetsOf("a b c-"),
		"twice the same name":       assetsOf("a a"),
		"twice, apart":              assetsOf("a b a"),
		"names that fall":           assetsOf("b a"),
		"the last name falls":       assetsOf("a c b"),
		"a beginning behind":        assetsOf("ab a"),
		"small letters first":       assetsOf("a B"),
		"one need too many":         tooMany,
		"needs that fall":           assetsOf("a b c:b,a"),
		"the last need falls":       assetsOf("a b c d:a,c,b"),
		"twice the same need":       assetsOf("a b:a,a"),
		"a need that is not there":  assetsOf("a:b"),
		"the last need is not":      assetsOf("a b c:a,b,d"),
		"a need that is less":       assetsOf("b:a"),
		"an empty need":             {{Name: "a", Needs: []string{""}}},
		"an empty need, and more":   {{Name: "a"}, {Name: "b", Needs: []string{"", "a"}}},
		"a need that is no name":    assetsOf("a b:1"),
		"a need that begins as one": assetsOf("aa b:a"),
		"of itself":                 assetsOf("a:a"),
		"the last one of itself":    assetsOf("a b:a c:a,b,c"),
		"a ring of two":             assetsOf("a:b b:a"),
		"a ring of two beside one":  assetsOf("a b:c c:b"),
		"a ring that one needs":     assetsOf("a:b b:c c:b"),
		"a ring that needs one":     assetsOf("a b:a,c c:b"),
		"a ring of three":           assetsOf("a:b b:c c:a"),
		"a ring of three, back":     assetsOf("a:c b:a c:b"),
		"a ring of all":             chained(mostAssets, 1, true),
		"a ring of all, back":       chained(mostAssets, -1, true),
		"a ring of all by sevens":   chained(mostAssets, 7, true),
		"a byte too many":           {{Name: "a", Data: make([]byte, mostBytes+1)}},
		"far too many bytes":        {{Name: "a", Data: make([]byte, 100000)}},
		"the last one's bytes":      big,
	}
}

// slowNeedsItself tells whether one of the assets needs itself, by way of others or not.
func slowNeedsItself(l []impl.Asset) bool {
	var needs [mostAssets][mostAssets]bool
	for i, a := range l {
		for j, b := range l {
			needs[i][j] = slices.Contains(a.Needs, b.Name)
		}
	}
	round := false
	for by := range l {
		for from := range l {
			for to := range l {
				needs[from][to] = needs[from][to] || needs[from][by] && needs[by][to]
			}
		}
	}
	for i := range l {
		round = round || needs[i][i]
	}
	return round
}

func slowRisingNames(l []string) bool {
	good := true
	for i, name := range l {
		good = good && slowGoodName(name) && !slices.ContainsFunc(l[:i], func(ahead string) bool { return strings.Compare(ahead, name) >= 0 })
	}
	return good
}

func slowGoodAssets(l []impl.Asset) bool {
	if len(l) > 30 || !slowRisingNames(namesOfAssets(l)) {
		return false
	}
	for _, a := range l {
		if len(a.Needs) > 10 || !slowRisingNames(a.Needs) || len(a.Data) > 400 {
			return false
		}
		for _, need := range a.Needs {
			if !slices.Contains(namesOfAssets(l), need) {
				return false
			}
		}
	}
	return !slowNeedsItself(l)
}

// slowOrder counts down what each one still needs, and keeps those that need nothing more sorted.
func slowOrder(l []impl.Asset) ([]string, bool) {
	if !slowGoodAssets(l) {
		return nil, false
	}
	open, needed := map[string]int{}, map[string][]string{}
	var free, out []string
	for _, a := range l {
		open[a.Name] = len(a.Needs)
		for _, need := range a.Needs {
			needed[need] = append(needed[need], a.Name)
		}
		if len(a.Needs) == 0 {
			free = append(free, a.Name)
		}
	}
	for len(free) > 0 {
		slices.Sort(free)
		name := free[0]
		free, out = free[1:], append(out, name)
		for _, above := range needed[name] {
			if open[above]--; open[above] == 0 {
				free = append(free, above)
			}
		}
	}
	return out, true
}

// slowStamps gives all stamps, from below.
func slowStamps(l []impl.Asset) map[string]uint32 {
	out := map[string]uint32{}
	order, _ := slowOrder(l)
	for _, name := range order {
		for _, a := range l {
			if a.Name != name {
				continue
			}
			content := append(slices.Concat([]byte(name), []byte{0}, a.Data), 0)
			for _, need := range a.Needs {
				content = binary.BigEndian.AppendUint32(content, out[need])
			}
			sum := fnv.New32a()
			sum.Write(content)
			out[name] = sum.Sum32()
		}
	}
	return out
}

func slowStamp(l []impl.Asset, name string) (uint32, bool) {
	stamp, there := slowStamps(l)[name]
	return stamp, there
}

func slowStale(old []impl.Asset, now []impl.Asset) ([]string, bool) {
	if !slowGoodAssets(old) || !slowGoodAssets(now) {
		return nil, false
	}
	was, is := slowStamps(old), slowStamps(now)
	var out []string
	for _, name := range namesOfAssets(now) {
		if stamp, there := was[name]; !there || stamp != is[name] {
			out = append(out, name)
		}
	}
	return out, true
}

func wantGoodAssets(t *testing.T, what string, l []impl.Asset, want bool) {
	t.Helper()
	if got := purely(t, "GoodAssets", impl.GoodAssets, l); got[0] != want || slowGoodAssets(l) != want {
		t.Errorf("%s: GoodAssets %v = %v, want %v", what, l, got, want)
	}
}

func wantMakeOrder(t *testing.T, what string, l []impl.Asset, want []string, good bool) {
	t.Helper()
	if got := purely(t, "MakeOrder", impl.MakeOrder, l); !alike(got[0], want) || got[1] != good {
		t.Errorf("%s: MakeOrder %v = %v, want %v, %v", what, l, got, want, good)
	}
}

func wantStamp(t *testing.T, what string, l []impl.Asset, name string, want uint32, good bool) {
	t.Helper()
	if got := purely(t, "StampOf", impl.StampOf, l, name); got[0] != want || got[1] != good {
		t.Errorf("%s: StampOf %v, %q = %v, want %v, %v", what, l, name, got, want, good)
	}
}

func wantStale(t *testing.T, what string, old []impl.Asset, now []impl.Asset, want []string, good bool) {
	t.Helper()
	if got := purely(t, "StaleBetween", impl.StaleBetween, old, now); !alike(got[0], want) || got[1] != good {
		t.Errorf("%s: StaleBetween %v, %v = %v, want %v, %v", what, old, now, got, want, good)
	}
}

// wantSlowAssets asks of a list for what the slow ones give.
func wantSlowAssets(t *testing.T, what string, l []impl.Asset) {
	t.Helper()
	wantGoodAssets(t, what, l, slowGoodAssets(l))
	order, good := slowOrder(l)
	wantMakeOrder(t, what, l, order, good)
	stamps := slowStamps(l)
	for _, name := range append(namesOfAssets(l[:min(len(l), 40)]), "not_there", "") {
		stamp, there := stamps[name]
		wantStamp(t, what, l, name, stamp, there)
	}
	stale, good := slowStale(l, l)
	wantStale(t, what, l, l, stale, good)
}

func wantSlowStale(t *testing.T, what string, old []impl.Asset, now []impl.Asset) {
	t.Helper()
	stale, good := slowStale(old, now)
	wantStale(t, what, old, now, stale, good)
}

func TestAssetConstants(t *testing.T) {
	if impl.MaxAssets != mostAssets || impl.MaxBytes != mostBytes || impl.MaxBudget != mostBudget || impl.MaxAsks != 60 {
		t.Error(impl.MaxAssets, impl.MaxBytes, impl.MaxBudget, impl.MaxAsks)
	}
	codes := []int{impl.StoreOk, impl.StoreBad, impl.StoreName, impl.StoreHeld, impl.StoreFull, impl.StoreNone}
	if !slices.Equal(codes, counted(6)) {
		t.Error(codes)
	}
}

func TestGoodAssets(t *testing.T) {
	for what, l := range goodAssetLists() {
		wantGoodAssets(t, what, l, true)
		wantSlowAssets(t, what, l)
	}
	for what, l := range badAssetLists() {
		wantGoodAssets(t, what, l, false)
		wantMakeOrder(t, what, l, nil, false)
		for _, name := range append(badNames(), "a", "b", "n00") {
			wantStamp(t, what, l, name, 0, false)
		}
		for _, other := range [][]impl.Asset{nil, assetsOf("a"), l} {
			wantStale(t, what, l, other, nil, false)
			wantStale(t, what, other, l, nil, false)
		}
	}
}

// One thing of good assets is made another, at each place.
func TestGoodAssetsWithOneThingChanged(t *testing.T) {
	base := assetsOf("a:c=x b c:b=yz d:a,b,c e")
	for at := range base {
		for _, name := range append(badNames(), "A", "a", "aa", "b", "bb", "c", "d", "dd", "e", "f", longName) {
			l := copiedAssets(base)
			l[at].Name = name
			wantSlowAssets(t, "a name", l)
			for place := range base[at].Needs {
				l = copiedAssets(base)
				l[at].Needs[place] = name
				wantSlowAssets(t, "a need", l)
			}
			l = copiedAssets(base)
			l[at].Needs = append(l[at].Needs, name)
			wantSlowAssets(t, "one need more", l)
		}
		for _, many := range []int{0, 1, mostBytes - 1, mostBytes, mostBytes + 1, 2 * mostBytes} {
			l := copiedAssets(base)
			l[at].Data = bytes.Repeat([]byte("q"), many)
			wantSlowAssets(t, "its data", l)
			wantGoodAssets(t, "its data", l, many <= mostBytes)
		}
	}
}

func TestMakeOrderTold(t *testing.T) {
	for _, c := range []struct {
		l    string
		want string
	}{
		{"", ""},
		{"a", "a"},
		{"a b c", "a b c"},
		{"a:b b", "b a"},
		{"a b:a", "a b"},
		{"a:c b c", "b c a"},
		{"a:b b c", "b a c"},
		{"a:c b:c c", "c a b"},
		{"a:c b c:b", "b c a"},
		{"a:b,c b c", "b c a"},
		{"a:b b:c c", "c b a"},
		{"a:b b:c c d", "c b a d"},
		{"a:d b c d", "b c d a"},
		{"a:d b c d e", "b c d a e"},
		{"a:e b:d c d e", "c d b e a"},
		{"a:b,c b:d c:d d", "d b c a"},
		{"a:b c:d b:d d", "bad"},
		{"a b:f c:a d:b e:c f", "a c e f b d"},
		{"a:z b:y y z", "y b z a"},
		{"A:a a:b b", "b a A"},
		{"_a:a Z a:Z", "bad"},
		{"Z _a:a a:Z", "Z a _a"},
		{"n1:n2 n10:n3 n2:n10 n3", "n3 n10 n2 n1"},
		{"a:b,c,d,e b:c,d,e c:d,e d:e e", "e d c b a"},
		{"a:b b:a", "bad"},
	} {
		want := strings.Fields(c.want)
		if c.want == "bad" {
			wantMakeOrder(t, c.l, assetsOf(c.l), nil, false)
			continue
		}
		wantMakeOrder(t, c.l, assetsOf(c.l), want, true)
	}
	names := manyNames(mostAssets)
	wantMakeOrder(t, "as many that need nothing", manyAssets(mostAssets), names, true)
	wantMakeOrder(t, "as many, back", chained(mostAssets, -1, false), names, true)
	slices.Reverse(names)
	wantMakeOrder(t, "as many, one after the other", chained(mostAssets, 1, false), names, true)
	wantMakeOrder(t, "as many ways", laddered(mostAssets), names, true)
}

// ordersOf gives all orders of names, the least first.
func ordersOf(names []string) [][]string {
	if len(names) == 0 {
		return [][]string{nil}
	}
	var out [][]string
	for i, first := range names {
		for _, rest := range ordersOf(slices.Concat(names[:i], names[i+1:])) {
			out = append(out, append([]string{first}, rest...))
		}
	}
	return out
}

// comesBehind tells whether each asset stands behind all that it needs.
func comesBehind(l []impl.Asset, order []string) bool {
	for _, a := range l {
		for _, need := range a.Needs {
			if at := slices.Index(order, need); at < 0 || at >= slices.Index(order, a.Name) {
				return false
			}
		}
	}
	return true
}

// assetsByBits gives assets of which each needs those whose bits are set, itself among them.
func assetsByBits(many int, bits int) []impl.Asset {
	l := manyAssets(many)
	for i := range l {
		for j := range l {
			if bits>>(i*many+j)&1 == 1 {
				l[i].Needs = append(l[i].Needs, l[j].Name)
			}
		}
	}
	return l
}

// Promise 21: all needs among up to four assets; what is made comes behind what it needs, and of all orders
// in which it does the first one is taken.
func TestMakeOrderOfAllSmallLists(t *testing.T) {
	for many := range 5 {
		all := ordersOf(manyNames(many))
		found := 0
		for bits := range 1 << (many * many) {
			l := assetsByBits(many, bits)
			at := slices.IndexFunc(all, func(order []string) bool { return comesBehind(l, order) })
			var want []string
			if at >= 0 {
				want = all[at]
				found++
			}
			got, good := impl.MakeOrder(l)
			if good != (at >= 0) || !slices.Equal(got, want) || impl.GoodAssets(l) != good {
				t.Fatal(l, got, good, want)
			}
		}
		if told := []int{1, 1, 3, 25, 543}[many]; found != told {
			t.Error("lists without a ring", many, found, told)
		}
	}
}

// coinAssets gives good assets whose needs go up and down the list, but never round.
func coinAssets(next func(int) int, many int, few int) []impl.Asset {
	l := manyAssets(many)
	order := counted(many)
	for i := many - 1; i > 0; i-- {
		j := next(i + 1)
		order[i], order[j] = order[j], order[i]
	}
	for place, at := range order {
		for range next(few + 1) {
			if place == 0 {
				break
			}
			need := l[order[next(place)]].Name
			if !slices.Contains(l[at].Needs, need) && len(l[at].Needs) < mostNeeds {
				l[at].Needs = append(l[at].Needs, need)
			}
		}
		slices.Sort(l[at].Needs)
		l[at].Data = coinBytes(next, next(4), "xy\x00")
	}
	return l
}

func coinBytes(next func(int) int, many int, of string) []byte {
	var out []byte
	for range many {
		out = append(out, of[next(len(of))])
	}
	return out
}

// Promise 21.
func TestWhatIsMadeComesBehindWhatItNeeds(t *testing.T) {
	outOfOrder := 0
	for seed := range 250 {
		next := coinRow(seed + 21000)
		l := coinAssets(next, next(mostAssets+1), coinOf(next, []int{0, 1, 2, 5, 15}))
		wantSlowAssets(t, "coins", l)
		order, good := impl.MakeOrder(l)
		if !good || !comesBehind(l, order) || len(order) != len(l) {
			t.Fatal(l, order, good)
		}
		if !slices.IsSorted(order) {
			outOfOrder++
		}
		// None that is less could have come first.
		for at, name := range order {
			for _, a := range l {
				rest := slices.ContainsFunc(a.Needs, func(need string) bool { return !slices.Contains(order[:at], need) })
				if a.Name < name && !slices.Contains(order[:at], a.Name) && !rest {
					t.Fatal("a lesser one may come next", l, order, a.Name)
				}
			}
		}
		if len(l) > 1 {
			ringed := copiedAssets(l)
			from, to := next(len(l)), next(len(l))
			if ringed[from].Needs = append(ringed[from].Needs, l[to].Name); len(ringed[from].Needs) <= mostNeeds {
				slices.Sort(ringed[from].Needs)
				wantSlowAssets(t, "one need more", ringed)
			}
		}
	}
	if outOfOrder < 120 {
		t.Error(outOfOrder)
	}
}

func TestStampsTold(t *testing.T) {
	for _, c := range []struct {
		l    string
		name string
		want uint32
	}{
		{"a", "a", 787733260},
		{"b", "b", 3953652973},
		{"a=x", "a", 3318612124},
		{"a:b b", "a", 2127126177},
		{"a:b b", "b", 3953652973},
		{"a:b=x b", "a", 392142225},
		{"a:b=x b", "b", 3953652973},
		{"a:b b=x", "a", 2159848840},
		{"a:b b=x", "b", 356331487},
		{"a:b,c b c", "a", 3072765249},
		{"a:b,c b c", "b", 3953652973},
		{"a:b,c b c", "c", 2898346402},
		{"a:b,c b:d c:d d=xyz", "a", 1182388231},
		{"a:b,c b:d c:d d=xyz", "b", 4214018029},
		{"a:b,c b:d c:d d=xyz", "c", 2423508910},
		{"a:b,c b:d c:d d=xyz", "d", 1219632692},
		{"b:d d=xyz e:b f", "b", 4214018029},
	} {
		wantStamp(t, c.l, assetsOf(c.l), c.name, c.want, true)
		if slow, good := slowStamp(assetsOf(c.l), c.name); slow != c.want || !good {
			t.Error("slow", c.l, slow)
		}
	}
	wantStamp(t, "a nought as data", []impl.Asset{{Name: "a", Data: []byte{0}}}, "a", 4125217764, true)
	most := []impl.Asset{{Name: longName, Data: bytes.Repeat([]byte{255}, mostBytes)}}
	wantStamp(t, "the longest name and data", most, longName, 4002459837, true)
}

func TestStampsOfNamesThatAreNotThere(t *testing.T) {
	for what, l := range goodAssetLists() {
		for _, name := range append(badNames(), "0", "not_there", "n", "n00x", "aaa", "zz", longName[1:]) {
			if !slices.Contains(namesOfAssets(l), name) {
				wantStamp(t, what, l, name, 0, false)
			}
		}
	}
	wantStamp(t, "a need that is not in the list", assetsOf("a:b"), "a", 0, false)
}

// Of as many ways as may be to one asset: each stamp is reckoned once, or it never ends.
func TestStampsByManyWays(t *testing.T) {
	l := laddered(mostAssets)
	stamps := slowStamps(l)
	for _, name := range namesOfAssets(l) {
		wantStamp(t, "as many ways as may be", l, name, stamps[name], true)
	}
	changed := copiedAssets(l)
	changed[mostAssets-1].Data = []byte("x")
	wantStale(t, "far below", l, changed, namesOfAssets(l), true)
	wantStale(t, "far below, back", changed, l, namesOfAssets(l), true)
	changed = copiedAssets(l)
	changed[0].Data = []byte("x")
	wantStale(t, "above all", l, changed, []string{"n00"}, true)
}

// Each thing of an asset is in its stamp, and nothing of those that it does not need.
func TestStampsTellEachThing(t *testing.T) {
	base := assetsOf("a:b=xy b:d c=q d=z e")
	seen := map[uint32]string{}
	look := func(what string, text string) {
		stamp, good := impl.StampOf(assetsOf(text), "a")
		if other, there := seen[stamp]; there || !good {
			t.Error(what, "is as", other, stamp, good)
		}
		seen[stamp] = what
	}
	look("as it is", "a:b=xy b:d c=q d=z e")
	look("no data", "a:b b:d c=q d=z e")
	look("data cut", "a:b=x b:d c=q d=z e")
	look("data turned", "a:b=yx b:d c=q d=z e")
	look("data longer", "a:b=xyx b:d c=q d=z e")
	look("no need", "a=xy b:d c=q d=z e")
	look("another need", "a:d=xy b:d c=q d=z e")
	look("one need more", "a:b,c=xy b:d c=q d=z e")
	look("one need more, behind", "a:b,e=xy b:d c=q d=z e")
	look("the need's data", "a:b=xy b:d=1 c=q d=z e")
	look("the need's need", "a:b=xy b:e c=q d=z e")
	look("the need's need's data", "a:b=xy b:d c=q d=zz e")
	look("the need's need's need", "a:b=xy b:d c=q d:e=z e")
	for _, text := range []string{"a:b=xy b:d c d=z e", "a:b=xy b:d c:a=q d=z e:a,b,c,d=5", "a:b=xy b:d d=z", "a:b=xy b:d c:e d=z e:d f:a"} {
		want, _ := slowStamp(base, "a")
		wantStamp(t, text, assetsOf(text), "a", want, true)
	}
}

func TestStaleBetweenTold(t *testing.T) {
	for _, c := range []struct {
		what string
		old  string
		now  string
		want string
	}{
		{"both empty", "", "", ""},
		{"from nothing", "", "a b:a c", "a b c"},
		{"to nothing", "a b:a c", "", ""},
		{"alike", "a:b=1 b:c=2 c=3", "a:b=1 b:c=2 c=3", ""},
		{"one asset more, first", "b c", "a b c", "a"},
		{"one asset more, last", "a b", "a b c", "c"},
		{"one asset more, between", "a c", "a b c", "b"},
		{"one asset less, first", "a b c", "b c", ""},
		{"one asset less, last", "a b c", "a b", ""},
		{"another name", "a b", "a c", "c"},
		{"other data", "a b c", "a b=x c", "b"},
		{"data gone", "a b=x c", "a b c", "b"},
		{"other data, needed", "a:b b c:a", "a:b b=x c:a", "a b c"},
		{"other data above", "a:b b c:a", "a:b b c:a=x", "c"},
		{"other data in the middle", "a:b b c:a", "a:b=x b c:a", "a c"},
		{"other needs", "a b c", "a:b b c", "a"},
		{"needs gone", "a:b b c:a", "a b c:a", "a c"},
		{"a need more", "a b c:a", "a b c:a,b", "c"},
		{"one need for another alike in all but its name", "a b c:a", "a b c:b", "c"},
		{"a need more that is new", "a c:a", "a b c:a,b", "b c"},
		{"turned about", "a:b b", "a b:a", "a b"},
		{"far below", "a:b b:c c:d d:e e=1 f", "a:b b:c c:d d:e e=2 f", "a b c d e"},
		{"far below, back", "a=1 b:a c:b d:c e f:d", "a=2 b:a c:b d:c e f:d", "a b c d f"},
		{"by one way of two", "a:b,c b c:d d=1", "a:b,c b c:d d=2", "a c d"},
		{"by both ways", "a:b,c b:d c:d d=1", "a:b,c b:d c:d d=2", "a b c d"},
		{"two changes", "a=1 b c=1 d:b", "a=2 b c=2 d:b", "a c"},
		{"of names that rise by bytes", "A:a Z a", "A:a Z=x a=x", "A Z a"},
	} {
		wantStale(t, c.what, assetsOf(c.old), assetsOf(c.now), strings.Fields(c.want), true)
		wantSlowStale(t, c.what, assetsOf(c.old), assetsOf(c.now))
		wantSlowStale(t, c.what+", back", assetsOf(c.now), assetsOf(c.old))
	}
	most := manyAssets(mostAssets)
	wantStale(t, "as many from nothing", nil, most, manyNames(mostAssets), true)
	wantStale(t, "as many to nothing", most, nil, nil, true)
	ring := chained(mostAssets, 1, false)
	changed := copiedAssets(ring)
	changed[20].Data = []byte("x")
	wantStale(t, "all above the changed one", ring, changed, manyNames(21), true)
}

// wholesOf gives each asset a number that two assets share just if they and all below them are the same.
func wholesOf(l []impl.Asset, known map[string]int) map[string]int {
	out := map[string]int{}
	order, _ := slowOrder(l)
	for _, name := range order {
		for _, a := range l {
			if a.Name != name {
				continue
			}
			whole := fmt.Sprintf("%q %q", name, a.Data)
			for _, need := range a.Needs {
				whole += fmt.Sprint(" ", out[need])
			}
			if _, there := known[whole]; !there {
				known[whole] = len(known)
			}
			out[name] = known[whole]
		}
	}
	return out
}

// What is stale is what is another one, or what needs one that is.
func TestStaleIsWhatIsAnotherOne(t *testing.T) {
	stales, fresh := 0, 0
	for seed := range 300 {
		next := coinRow(seed + 21100)
		old := coinAssets(next, 1+next(mostAssets), coinOf(next, []int{1, 2, 4}))
		now := copiedAssets(old)
		for range next(3) {
			a := &now[next(len(now))]
			switch next(3) {
			case 0:
				a.Data = coinBytes(next, next(4), "xy\x00")
			case 1:
				a.Needs = a.Needs[:next(len(a.Needs)+1)]
			case 2:
				a.Name += "x"
			}
		}
		if !slowGoodAssets(now) {
			wantStale(t, "not good", old, now, nil, false)
			continue
		}
		known := map[string]int{}
		was, is := wholesOf(old, known), wholesOf(now, known)
		var want []string
		for _, name := range namesOfAssets(now) {
			if whole, there := was[name]; !there || whole != is[name] {
				want = append(want, name)
			}
		}
		stales, fresh = stales+len(want), fresh+len(now)-len(want)
		wantStale(t, "coins", old, now, want, true)
		wantSlowStale(t, "coins, back", now, old)
	}
	if stales < 200 || fresh < 1000 {
		t.Error(stales, fresh)
	}
}

func resident(name string, size int, held int, used int) impl.Resident {
	return impl.Resident{Name: name, Size: size, Held: held, Used: used}
}

func storeOf(budget int, clock int, in ...impl.Resident) impl.Store {
	return impl.Store{Budget: budget, Clock: clock, In: in}
}

// manyIn gives a store of so many of size 1, each used at its own time, the last one first.
func manyIn(many int, held int) impl.Store {
	s := storeOf(mostBudget, 100)
	for i, name := range manyNames(many) {
		s.In = append(s.In, resident(name, 1, held, 50-i))
	}
	return s
}

func smallStore() impl.Store {
	return storeOf(20, 9, resident("a", 3, 0, 7), resident("b", 5, 2, 0), resident("c", 2, 0, 4), resident("d", 6, 1000, 9), resident("e", 1, 0, 0))
}

func goodStores() map[string]impl.Store {
	return map[string]impl.Store{
		"no one in":               storeOf(1, 0),
		"the greatest of all":     storeOf(mostBudget, lastTime, resident("a", mostBudget, mostHeld, lastTime)),
		"small":                   smallStore(),
		"of the least size":       storeOf(1, 0, resident("a", 1, 0, 0)),
		"just the budget":         storeOf(10, 3, resident("a", 4, 0, 1), resident("b", 6, 1, 2)),
		"just the great budget":   storeOf(mostBudget, 3, resident("a", mostBudget-1, 0, 1), resident("b", 1, 1, 2)),
		"two used at 0":           storeOf(10, 3, resident("a", 4, 0, 0), resident("b", 6, 1, 0)),
		"all used at 0":           storeOf(10, 0, resident("a", 4, 1, 0), resident("b", 2, 999, 0), resident("c", 1, 0, 0)),
		"used at the clock":       storeOf(10, 3, resident("a", 4, 0, 3), resident("b", 6, 1, 2)),
		"used in any order":       storeOf(10, 9, resident("a", 1, 0, 9), resident("b", 1, 1, 1), resident("c", 1, 1, 5)),
		"as many as may be":       manyIn(mostAssets, 0),
		"as many, all held":       manyIn(mostAssets, mostHeld),
		"one fewer":               manyIn(mostAssets-1, 1),
		"names of any kind":       storeOf(10, 0, resident("A", 1, 0, 0), resident("_", 1, 0, 0), resident("a", 1, 0, 0), resident("aa", 1, 0, 0), resident(longName, 1, 0, 0)),
		"the clock at its end":    storeOf(5, lastTime),
		"one used at the end":     storeOf(5, lastTime, resident("a", 1, 0, lastTime), resident("b", 1, 0, lastTime-1)),
		"no one in, great budget": storeOf(mostBudget, 0),
	}
}

func badStores() map[string]impl.Store {
	one := func(in ...impl.Resident) impl.Store { return storeOf(10, 5, in...) }
	lastUsed := manyIn(mostAssets, 0)
	lastUsed.In[mostAssets-1].Used = 50
	return map[string]impl.Store{
		"the zero store":            {},
		"a budget of 0":             storeOf(0, 0),
		"a budget below 0":          storeOf(-1, 0),
		"a budget above":            storeOf(mostBudget+1, 0),
		"a budget far above":        storeOf(math.MaxInt, 0, resident("a", 1, 0, 0)),
		"a clock below 0":           storeOf(5, -1),
		"a clock above":             storeOf(5, lastTime+1),
		"one too many":              manyIn(mostAssets+1, 0),
		"far too many":              manyIn(90, 0),
		"names alike":               one(resident("a", 1, 0, 1), resident("a", 1, 0, 2)),
		"names that fall":           one(resident("b", 1, 0, 1), resident("a", 1, 0, 2)),
		"the last name falls":       one(resident("a", 1, 0, 1), resident("c", 1, 0, 2), resident("b", 1, 0, 3)),
		"a beginning behind":        one(resident("ab", 1, 0, 1), resident("a", 1, 0, 2)),
		"small letters first":       one(resident("a", 1, 0, 1), resident("B", 1, 0, 2)),
		"an empty name":             one(resident("", 1, 0, 1)),
		"a name that is none":       one(resident("a", 1, 0, 1), resident("b c", 1, 0, 2)),
		"a name too long":           one(resident(longName+"z", 1, 0, 1)),
		"a size of 0":               one(resident("a", 0, 0, 1)),
		"a size below 0":            one(resident("a", -1, 0, 1)),
		"a size below 0 beside one": one(resident("a", 20, 0, 1), resident("b", -15, 0, 2)),
		"a size above the budget":   one(resident("a", 11, 0, 1)),
		"a size above all":          storeOf(mostBudget, 5, resident("a", mostBudget+1, 0, 1)),
		"sizes one above":           one(resident("a", 5, 0, 1), resident("b", 6, 0, 2)),
		"sizes that go round":       one(resident("a", math.MaxInt, 0, 1), resident("b", math.MaxInt, 0, 2), resident("c", 3, 0, 3)),
		"held below 0":              one(resident("a", 1, -1, 1)),
		"held too often":            one(resident("a", 1, mostHeld+1, 1)),
		"used below 0":              one(resident("a", 1, 0, -1)),
		"used behind the clock":     one(resident("a", 1, 0, 6)),
		"used alike":                one(resident("a", 1, 0, 3), resident("b", 1, 0, 3)),
		"used alike, apart":         one(resident("a", 1, 0, 3), resident("b", 1, 0, 2), resident("c", 1, 0, 3)),
		"used alike, one held":      one(resident("a", 1, 1, 5), resident("b", 1, 0, 5)),
		"used alike, of as many":    lastUsed,
		"the clock at its end too":  storeOf(5, lastTime, resident("a", 6, 0, 0)),
	}
}

func slowGoodStore(s impl.Store) bool {
	good := within(1, s.Budget, 100000) && within(0, s.Clock, 100000) && len(s.In) <= 30
	sum, names, used := new(big.Int), []string{}, map[int]int{}
	for _, r := range s.In {
		names = append(names, r.Name)
		sum.Add(sum, big.NewInt(int64(r.Size)))
		used[r.Used]++
		good = good && within(1, r.Size, 100000) && within(0, r.Held, 1000) && within(0, r.Used, s.Clock) && (r.Used == 0 || used[r.Used] == 1)
	}
	return good && slowRisingNames(names) && sum.Cmp(big.NewInt(int64(s.Budget))) <= 0
}

// slowFetch lays those that may go in the order in which they would, and looks for the fewest of them.
func slowFetch(s impl.Store, name string, size int) (impl.Store, []string, int) {
	if !slowGoodStore(s) || s.Clock == 100000 {
		return impl.Store{}, nil, impl.StoreBad
	}
	if !slowGoodName(name) || !within(1, size, 100000) {
		return s, nil, impl.StoreName
	}
	then := impl.Store{Budget: s.Budget, Clock: s.Clock + 1, In: slices.Clone(s.In)}
	for i, r := range s.In {
		if r.Name != name {
			continue
		}
		if r.Size != size || r.Held == 1000 {
			return s, nil, impl.StoreHeld
		}
		then.In[i].Held, then.In[i].Used = r.Held+1, s.Clock+1
		return then, nil, impl.StoreOk
	}
	var loose []impl.Resident
	all := size
	for _, r := range s.In {
		all += r.Size
		if r.Held == 0 {
			loose = append(loose, r)
		}
	}
	slices.SortStableFunc(loose, func(a impl.Resident, b impl.Resident) int { return a.Used - b.Used })
	for many := 0; many <= len(loose); many++ {
		var out []string
		rest := all
		for _, r := range loose[:many] {
			rest -= r.Size
			out = append(out, r.Name)
		}
		if rest > s.Budget || len(s.In)-many >= 30 {
			continue
		}
		then.In = slices.DeleteFunc(then.In, func(r impl.Resident) bool { return slices.Contains(out, r.Name) })
		then.In = append(then.In, resident(name, size, 1, s.Clock+1))
		slices.SortFunc(then.In, func(a impl.Resident, b impl.Resident) int { return strings.Compare(a.Name, b.Name) })
		return then, out, impl.StoreOk
	}
	return s, nil, impl.StoreFull
}

func slowRelease(s impl.Store, name string) (impl.Store, int) {
	if !slowGoodStore(s) {
		return impl.Store{}, impl.StoreBad
	}
	then := impl.Store{Budget: s.Budget, Clock: s.Clock}
	code := impl.StoreNone
	for _, r := range s.In {
		if r.Name == name && r.Held > 0 {
			r.Held--
			code = impl.StoreOk
		}
		then.In = append(then.In, r)
	}
	return then, code
}

func wantGoodStore(t *testing.T, what string, s impl.Store, want bool) {
	t.Helper()
	if got := purely(t, "GoodStore", impl.GoodStore, s); got[0] != want || slowGoodStore(s) != want {
		t.Errorf("%s: GoodStore %v = %v, want %v", what, s, got, want)
	}
}

func wantFetch(t *testing.T, what string, s impl.Store, name string, size int, then impl.Store, out []string, code int) {
	t.Helper()
	got := purely(t, "Fetch", impl.Fetch, s, name, size)
	if !alike(got[0], then) || !alike(got[1], out) || got[2] != code {
		t.Errorf("%s: Fetch %v, %q, %d = %v, want %v, %v, %d", what, s, name, size, got, then, out, code)
	}
}

func wantSlowFetch(t *testing.T, what string, s impl.Store, name string, size int) {
	t.Helper()
	then, out, code := slowFetch(s, name, size)
	wantFetch(t, what, s, name, size, then, out, code)
}

func wantRelease(t *testing.T, what string, s impl.Store, name string, then impl.Store, code int) {
	t.Helper()
	got := purely(t, "Release", impl.Release, s, name)
	if !alike(got[0], then) || got[1] != code {
		t.Errorf("%s: Release %v, %q = %v, want %v, %d", what, s, name, got, then, code)
	}
}

func wantSlowRelease(t *testing.T, what string, s impl.Store, name string) {
	t.Helper()
	then, code := slowRelease(s, name)
	wantRelease(t, what, s, name, then, code)
}

// fetchSizes holds sizes on both sides of each limit, and such as no size is.
func fetchSizes() []int {
	return append(beyond(mostBudget), 0, 1, 2, 3, 4, 5, 6, 7, 10, 11, 12, 19, 20, 21, mostBudget-1, mostBudget)
}

func TestGoodStore(t *testing.T) {
	for what, s := range goodStores() {
		wantGoodStore(t, what, s, true)
		for _, size := range fetchSizes() {
			for _, name := range append(badNames(), "a", "b", "e", "n00", "n15", longName) {
				wantSlowFetch(t, what, s, name, size)
			}
		}
		for _, name := range append(badNames(), "a", "b", "c", "d", "e", "n00", "n29", "n30", longName) {
			wantSlowRelease(t, what, s, name)
		}
	}
	for what, s := range badStores() {
		wantGoodStore(t, what, s, false)
		for _, name := range append(badNames(), "a", "b", "n00") {
			for _, size := range []int{-1, 0, 1, 5, mostBudget, mostBudget + 1} {
				wantFetch(t, what, s, name, size, impl.Store{}, nil, impl.StoreBad)
			}
			wantRelease(t, what, s, name, impl.Store{}, impl.StoreBad)
		}
	}
}

// One thing of a good store is made another, at each place.
func TestGoodStoreWithOneThingChanged(t *testing.T) {
	ask := func(what string, s impl.Store) {
		t.Helper()
		wantGoodStore(t, what, s, slowGoodStore(s))
		wantSlowFetch(t, what, s, "b", 5)
		wantSlowFetch(t, what, s, "ff", 5)
		wantSlowRelease(t, what, s, "b")
	}
	for _, n := range append(farNumbers(), -1, 0, 1, 2, 3, 4, 5, 6, 7, 8, 9, 10, 11, 16, 17, 18, 20, 21, 999, 1000, 1001, lastTime-1, lastTime, lastTime+1) {
		s := smallStore()
		s.Budget = n
		ask("Budget", s)
		s = smallStore()
		s.Clock = n
		ask("Clock", s)
		for i := range s.In {
			for field := range 3 {
				s = smallStore()
				r := &s.In[i]
				*[]*int{&r.Size, &r.Held, &r.Used}[field] = n
				ask("one number", s)
			}
		}
	}
	for _, name := range append(badNames(), "A", "a", "aa", "b", "c", "d", "e", "f", longName) {
		for i := range smallStore().In {
			s := smallStore()
			s.In[i].Name = name
			ask("a name", s)
		}
	}
}

func TestFetchOfOneThatIsIn(t *testing.T) {
	s := smallStore()
	for at, r := range s.In {
		then := smallStore()
		then.Clock = 10
		then.In[at].Held++
		then.In[at].Used = 10
		if r.Name == "d" {
			wantFetch(t, "held as often as may be", s, "d", r.Size, s, nil, impl.StoreHeld)
		} else {
			wantFetch(t, "the same size", s, r.Name, r.Size, then, nil, impl.StoreOk)
		}
		for _, size := range fetchSizes() {
			switch {
			case !within(1, size, mostBudget):
				wantFetch(t, "a size that is none", s, r.Name, size, s, nil, impl.StoreName)
			case size != r.Size:
				wantFetch(t, "another size", s, r.Name, size, s, nil, impl.StoreHeld)
			}
		}
	}
	for _, c := range []struct {
		held int
		code int
	}{{0, impl.StoreOk}, {1, impl.StoreOk}, {998, impl.StoreOk}, {999, impl.StoreOk}, {1000, impl.StoreHeld}} {
		s := storeOf(5, 3, resident("a", 5, c.held, 3))
		then := storeOf(5, 4, resident("a", 5, c.held+1, 4))
		if c.code != impl.StoreOk {
			then = s
		}
		wantFetch(t, "held so often", s, "a", 5, then, nil, c.code)
	}
	// In a store that is full and all held: what is in needs no room.
	full := manyIn(mostAssets, 1)
	then := manyIn(mostAssets, 1)
	then.Clock, then.In[7].Held, then.In[7].Used = 101, 2, 101
	wantFetch(t, "as many in, all held", full, "n07", 1, then, nil, impl.StoreOk)
}

func TestFetchOfOneThatIsNotIn(t *testing.T) {
	for _, c := range []struct {
		what string
		s    impl.Store
		name string
		size int
		then impl.Store
		out  string
		code int
	}{
		{"into an empty one", storeOf(5, 0), "a", 3, storeOf(5, 1, resident("a", 3, 1, 1)), "", 0},
		{"just the budget", storeOf(5, 0), "a", 5, storeOf(5, 1, resident("a", 5, 1, 1)), "", 0},
		{"one above the budget", storeOf(5, 0), "a", 6, storeOf(5, 0), "", impl.StoreFull},
		{"the least of all", storeOf(1, 0), "a", 1, storeOf(1, 1, resident("a", 1, 1, 1)), "", 0},
		{"the greatest of all", storeOf(mostBudget, lastTime-1), "a", mostBudget, storeOf(mostBudget, lastTime, resident("a", mostBudget, 1, lastTime)), "", 0},
		{"the clock at its end", storeOf(5, lastTime), "a", 3, impl.Store{}, "", impl.StoreBad},
		{"with room, first", storeOf(10, 4, resident("b", 5, 0, 2)), "a", 4, storeOf(10, 5, resident("a", 4, 1, 5), resident("b", 5, 0, 2)), "", 0},
		{"with just room, last", storeOf(10, 4, resident("b", 5, 0, 2)), "c", 5, storeOf(10, 5, resident("b", 5, 0, 2), resident("c", 5, 1, 5)), "", 0},
		{"with just no room", storeOf(10, 4, resident("b", 5, 0, 2)), "c", 6, storeOf(10, 5, resident("c", 6, 1, 5)), "b", 0},
		{"with just no room, held", storeOf(10, 4, resident("b", 5, 1, 2)), "c", 6, storeOf(10, 4, resident("b", 5, 1, 2)), "", impl.StoreFull},
		{"beside one that is held", storeOf(10, 4, resident("b", 5, 1, 2)), "c", 5, storeOf(10, 5, resident("b", 5, 1, 2), resident("c", 5, 1, 5)), "", 0},
		{"between", storeOf(10, 4, resident("a", 2, 0, 1), resident("c", 2, 0, 2)), "b", 6, storeOf(10, 5, resident("a", 2, 0, 1), resident("b", 6, 1, 5), resident("c", 2, 0, 2)), "", 0},
		{"the one used longest ago goes", storeOf(6, 9, resident("a", 2, 0, 5), resident("b", 2, 0, 3), resident("c", 2, 0, 4)), "d", 1, storeOf(6, 10, resident("a", 2, 0, 5), resident("c", 2, 0, 4), resident("d", 1, 1, 10)), "b", 0},
		{"two go, in their order", storeOf(6, 9, resident("a", 2, 0, 5), resident("b", 2, 0, 3), resident("c", 2, 0, 4)), "d", 3, storeOf(6, 10, resident("a", 2, 0, 5), resident("d", 3, 1, 10)), "b c", 0},
		{"two make just room", storeOf(6, 9, resident("a", 2, 0, 5), resident("b", 2, 0, 3), resident("c", 2, 0, 4)), "d", 4, storeOf(6, 10, resident("a", 2, 0, 5), resident("d", 4, 1, 10)), "b c", 0},
		{"all go", storeOf(6, 9, resident("a", 2, 0, 5), resident("b", 2, 0, 3), resident("c", 2, 0, 4)), "d", 6, storeOf(6, 10, resident("d", 6, 1, 10)), "b c a", 0},
		{"all would not do", storeOf(6, 9, resident("a", 2, 0, 5), resident("b", 2, 0, 3), resident("c", 2, 0, 4)), "d", 7, storeOf(6, 9, resident("a", 2, 0, 5), resident("b", 2, 0, 3), resident("c", 2, 0, 4)), "", impl.StoreFull},
		{"the one used longest ago is held", storeOf(6, 9, resident("a", 2, 0, 5), resident("b", 2, 1, 3), resident("c", 2, 0, 4)), "d", 2, storeOf(6, 10, resident("a", 2, 0, 5), resident("b", 2, 1, 3), resident("d", 2, 1, 10)), "c", 0},
		{"all but the held ones go", storeOf(6, 9, resident("a", 2, 0, 5), resident("b", 2, 1, 3), resident("c", 2, 0, 4)), "d", 4, storeOf(6, 10, resident("b", 2, 1, 3), resident("d", 4, 1, 10)), "c a", 0},
		{"all but the held ones would not do", storeOf(6, 9, resident("a", 2, 0, 5), resident("b", 2, 1, 3), resident("c", 2, 0, 4)), "d", 5, storeOf(6, 9, resident("a", 2, 0, 5), resident("b", 2, 1, 3), resident("c", 2, 0, 4)), "", impl.StoreFull},
		{"a great one goes though a small one behind it would do", storeOf(10, 9, resident("a", 8, 0, 1), resident("b", 2, 0, 2)), "c", 1, storeOf(10, 10, resident("b", 2, 0, 2), resident("c", 1, 1, 10)), "a", 0},
		{"a small one goes though a great one behind it alone would do", storeOf(10, 9, resident("a", 8, 0, 2), resident("b", 2, 0, 1)), "c", 5, storeOf(10, 10, resident("c", 5, 1, 10)), "b a", 0},
		{"of several never used the first", storeOf(6, 9, resident("a", 2, 0, 5), resident("b", 2, 0, 0), resident("c", 2, 0, 0)), "d", 1, storeOf(6, 10, resident("a", 2, 0, 5), resident("c", 2, 0, 0), resident("d", 1, 1, 10)), "b", 0},
		{"of several never used the first that is loose", storeOf(6, 9, resident("a", 2, 3, 0), resident("b", 2, 0, 0), resident("c", 2, 0, 0)), "d", 1, storeOf(6, 10, resident("a", 2, 3, 0), resident("c", 2, 0, 0), resident("d", 1, 1, 10)), "b", 0},
		{"all never used", storeOf(6, 0, resident("a", 2, 0, 0), resident("b", 2, 0, 0), resident("c", 2, 0, 0)), "d", 5, storeOf(6, 1, resident("d", 5, 1, 1)), "a b c", 0},
		{"never used goes ahead of used", storeOf(6, 9, resident("a", 2, 0, 1), resident("b", 2, 0, 2), resident("c", 2, 0, 0)), "d", 3, storeOf(6, 10, resident("b", 2, 0, 2), resident("d", 3, 1, 10)), "c a", 0},
		{"used at the clock goes too", storeOf(2, 9, resident("a", 2, 0, 9)), "b", 1, storeOf(2, 10, resident("b", 1, 1, 10)), "a", 0},
		{"the name of one that went comes again", storeOf(2, 9, resident("b", 2, 0, 9)), "a", 2, storeOf(2, 10, resident("a", 2, 1, 10)), "b", 0},
	} {
		wantFetch(t, c.what, c.s, c.name, c.size, c.then, strings.Fields(c.out), c.code)
		wantSlowFetch(t, c.what, c.s, c.name, c.size)
	}
}

func TestFetchWithAsManyIn(t *testing.T) {
	// manyIn has the last one used first.
	loose := manyIn(mostAssets, 0)
	then := manyIn(mostAssets-1, 0)
	then.Clock = 101
	then.In = append(then.In, resident("z", 1, 1, 101))
	wantFetch(t, "one goes for its place alone", loose, "z", 1, then, []string{"n29"}, impl.StoreOk)
	then.In[29].Size = mostBudget - 29
	wantFetch(t, "just room for it then", loose, "z", mostBudget-29, then, []string{"n29"}, impl.StoreOk)
	then.In[28] = resident("z", mostBudget-28, 1, 101)
	then.In = then.In[:29]
	wantFetch(t, "one more goes for its size", loose, "z", mostBudget-28, then, []string{"n29", "n28"}, impl.StoreOk)
	gone := manyNames(mostAssets)
	slices.Reverse(gone)
	wantFetch(t, "all go", loose, "z", mostBudget, storeOf(mostBudget, 101, resident("z", mostBudget, 1, 101)), gone, impl.StoreOk)
	held := manyIn(mostAssets, 1)
	wantFetch(t, "all are held", held, "z", 1, held, nil, impl.StoreFull)
	for at := range held.In {
		some := manyIn(mostAssets, 1)
		some.In[at].Held = 0
		then := manyIn(mostAssets, 1)
		then.In = append(slices.Delete(then.In, at, at+1), resident("z", 1, 1, 101))
		then.Clock = 101
		wantFetch(t, "all but one are held", some, "z", 1, then, []string{some.In[at].Name}, impl.StoreOk)
		wantFetch(t, "all but one are held, no room", some, "z", mostBudget-28, some, nil, impl.StoreFull)
		wantSlowFetch(t, "all but one are held, just room", some, "z", mostBudget-29)
	}
	fewer := manyIn(mostAssets-1, 1)
	then = manyIn(mostAssets-1, 1)
	then.Clock = 101
	then.In = append(then.In, resident("z", 1, 1, 101))
	wantFetch(t, "a place is left", fewer, "z", 1, then, nil, impl.StoreOk)
}

// Of several reasons the one that is looked for first is told.
func TestWhichCodeIsTold(t *testing.T) {
	bad := storeOf(0, 0)
	late := storeOf(5, lastTime, resident("a", 3, mostHeld, 1))
	full := storeOf(5, 9, resident("a", 3, mostHeld, 1))
	for _, c := range []struct {
		what string
		s    impl.Store
		name string
		size int
		code int
	}{
		{"not good, and no name", bad, "", 1, impl.StoreBad},
		{"not good, and no size", bad, "a", 0, impl.StoreBad},
		{"not good, and above the budget", bad, "a", 1, impl.StoreBad},
		{"late, and no name", late, "1", 1, impl.StoreBad},
		{"late, and no size", late, "b", mostBudget + 1, impl.StoreBad},
		{"late, and held", late, "a", 3, impl.StoreBad},
		{"late, and full", late, "b", 3, impl.StoreBad},
		{"late", late, "b", 1, impl.StoreBad},
		{"no name, and no size", full, "", 0, impl.StoreName},
		{"no name, and full", full, "a b", 3, impl.StoreName},
		{"no size, and held", full, "a", 0, impl.StoreName},
		{"no size, and full", full, "b", mostBudget + 1, impl.StoreName},
		{"the greatest size, and full", full, "b", mostBudget, impl.StoreFull},
		{"another size, and held", full, "a", 2, impl.StoreHeld},
		{"another size, above the budget", full, "a", 6, impl.StoreHeld},
		{"held", full, "a", 3, impl.StoreHeld},
		{"full", full, "b", 3, impl.StoreFull},
		{"none of them", full, "b", 2, impl.StoreOk},
	} {
		then := c.s
		if c.code == impl.StoreBad {
			then = impl.Store{}
		}
		if c.code == impl.StoreOk {
			then = storeOf(5, 10, resident("a", 3, mostHeld, 1), resident("b", 2, 1, 10))
		}
		wantFetch(t, c.what, c.s, c.name, c.size, then, nil, c.code)
	}
	for _, name := range append(badNames(), "b") {
		wantRelease(t, "not good, and not in", bad, name, impl.Store{}, impl.StoreBad)
		wantRelease(t, "not in", full, name, full, impl.StoreNone)
		wantRelease(t, "not in, late", late, name, late, impl.StoreNone)
	}
}

func TestReleaseTold(t *testing.T) {
	for _, c := range []struct {
		what string
		held int
		code int
	}{
		{"held once", 1, impl.StoreOk},
		{"held twice", 2, impl.StoreOk},
		{"held often", 999, impl.StoreOk},
		{"held as often as may be", mostHeld, impl.StoreOk},
		{"not held", 0, impl.StoreNone},
	} {
		for _, clock := range []int{7, lastTime} {
			for at := range 3 {
				s := storeOf(9, clock, resident("a", 2, 5, 1), resident("b", 3, 0, 7), resident("c", 4, 1, 0))
				s.In[at].Held = c.held
				then := storeOf(9, clock, slices.Clone(s.In)...)
				if c.code == impl.StoreOk {
					then.In[at].Held--
				}
				wantRelease(t, c.what, s, s.In[at].Name, then, c.code)
				wantSlowRelease(t, c.what, s, s.In[at].Name)
			}
		}
	}
	for _, name := range []string{"", "aa", "A", "c_", "f", longName} {
		wantRelease(t, "not in", smallStore(), name, smallStore(), impl.StoreNone)
		wantRelease(t, "no one in", storeOf(1, 0), name, storeOf(1, 0), impl.StoreNone)
	}
}

// smallResidents gives all of one name that small stores have, and one without a name, which stands for none.
func smallResidents(name string) []impl.Resident {
	out := []impl.Resident{{}}
	for number := range 2 * 2 * 3 {
		out = append(out, resident(name, 1+number%2, number/2%2, number/4))
	}
	return out
}

// All small stores of up to three: each is asked for each of them, and for one more.
func TestFetchFromAllSmallStores(t *testing.T) {
	codes := map[int]int{}
	for _, a := range smallResidents("a") {
		for _, b := range smallResidents("b") {
			for _, c := range smallResidents("c") {
				in := slices.DeleteFunc([]impl.Resident{a, b, c}, func(r impl.Resident) bool { return r.Name == "" })
				for budget := 3; budget < 7; budget++ {
					s := storeOf(budget, 2, in...)
					for number := range 9 {
						name, size := string("bad"[number%3]), 1+number/3
						then, out, code := slowFetch(s, name, size)
						got, gone, told := impl.Fetch(s, name, size)
						if told != code || !slices.Equal(gone, out) || !alike(got, then) {
							t.Fatal(s, name, size, got, gone, told, then, out, code)
						}
						codes[code]++
					}
				}
			}
		}
	}
	for _, code := range []int{impl.StoreOk, impl.StoreBad, impl.StoreHeld, impl.StoreFull} {
		if codes[code] < 500 {
			t.Error(codes)
		}
	}
}

// heldNames gives what of a store is held.
func heldNames(s impl.Store) []string {
	var out []string
	for _, r := range s.In {
		if r.Held > 0 {
			out = append(out, r.Name)
		}
	}
	return out
}

// wantKept asks for what holds of each Fetch that is done: the budget is not passed, nothing held is put out,
// nothing is put out without need, and what went was used longer ago than all that is loose still.
func wantKept(t *testing.T, s impl.Store, then impl.Store, out []string, name string, size int) {
	t.Helper()
	sum, byName := 0, map[string]impl.Resident{}
	for _, r := range then.In {
		sum += r.Size
		byName[r.Name] = r
	}
	if sum > then.Budget || then.Budget != s.Budget || len(then.In) > mostAssets || !impl.GoodStore(then) {
		t.Fatal("the budget is passed", s, then)
	}
	if r := byName[name]; r.Size != size || r.Held < 1 || r.Used != then.Clock || then.Clock != s.Clock+1 {
		t.Fatal("what was fetched", s, then, name)
	}
	last := impl.Resident{}
	for _, r := range s.In {
		if slices.Contains(out, r.Name) {
			if r.Held > 0 {
				t.Fatal("held, and put out", s, out)
			}
			if out[len(out)-1] == r.Name {
				last = r
			}
		} else if r.Name != name && byName[r.Name] != r {
			t.Fatal("changed", s, then, r)
		}
	}
	if len(out) > 0 && sum+last.Size <= then.Budget && len(then.In) < mostAssets {
		t.Fatal("put out without need", s, then, out)
	}
	for _, r := range then.In {
		if len(out) > 0 && r.Held == 0 && r.Used < last.Used {
			t.Fatal("one used longer ago is in still", s, then, out)
		}
	}
}

// Promise 21: rows of asks; a budget is never passed, nothing held is put out.
func TestABudgetIsNeverPassed(t *testing.T) {
	codes, gone := map[string]int{}, 0
	for seed := range 250 {
		next := coinRow(seed + 21200)
		s := storeOf(coinOf(next, []int{1, 5, 12, 40, 300, mostBudget}), next(4))
		names := manyNames(coinOf(next, []int{2, 6, 12, 45}))
		sizes := map[string]int{}
		for _, name := range names {
			sizes[name] = 1 + next(coinOf(next, []int{2, 6, 30}))
		}
		for range 200 {
			name := coinOf(next, names)
			if held := heldNames(s); len(held) > 0 && next(5) < 2 {
				name = coinOf(next, held)
				then, code := impl.Release(s, name)
				if want, _ := slowRelease(s, name); code != impl.StoreOk || !alike(then, want) || !impl.GoodStore(then) {
					t.Fatal("Release", s, name, then, code)
				}
				s = then
				continue
			}
			size := sizes[name]
			if next(20) == 0 {
				size++
			}
			then, out, code := impl.Fetch(s, name, size)
			codes[fmt.Sprint(code)]++
			want, wantOut, wantCode := slowFetch(s, name, size)
			if code != wantCode || !slices.Equal(out, wantOut) || !alike(then, want) {
				t.Fatal("Fetch", s, name, size, then, out, code)
			}
			if code == impl.StoreOk {
				wantKept(t, s, then, out, name, size)
				gone += len(out)
			} else if !alike(then, s) || len(out) > 0 {
				t.Fatal("refused, and changed", s, then, out, code)
			}
			s = then
		}
	}
	if codes["0"] < 5000 || codes["3"] < 300 || codes["4"] < 3000 || gone < 2000 {
		t.Error(codes, gone)
	}
}

// One is fetched as often as it may be held, and let go as often.
func TestFetchedAndReleasedToTheEnd(t *testing.T) {
	s := storeOf(7, lastTime-mostHeld-1)
	for i := range mostHeld {
		then, out, code := impl.Fetch(s, "a", 7)
		if code != impl.StoreOk || len(out) > 0 || then.In[0].Held != i+1 {
			t.Fatal(i, then, out, code)
		}
		s = then
	}
	wantFetch(t, "once too often", s, "a", 7, s, nil, impl.StoreHeld)
	wantFetch(t, "another one", s, "b", 1, s, nil, impl.StoreFull)
	for i := range mostHeld {
		then, code := impl.Release(s, "a")
		if code != impl.StoreOk || then.Clock != lastTime-1 || then.In[0].Held != mostHeld-i-1 {
			t.Fatal(i, then, code)
		}
		s = then
	}
	wantRelease(t, "once too often", s, "a", s, impl.StoreNone)
	then := storeOf(7, lastTime, resident("b", 1, 1, lastTime))
	wantFetch(t, "it goes", s, "b", 1, then, []string{"a"}, impl.StoreOk)
	wantFetch(t, "no time is left", then, "c", 1, impl.Store{}, nil, impl.StoreBad)
	wantRelease(t, "what is held is let go still", then, "b", storeOf(7, lastTime, resident("b", 1, 0, lastTime)), impl.StoreOk)
}

func stretchOf(from int, many int) impl.Chunk { return impl.Chunk{From: from, Many: many} }

func bytesChunk(data string) impl.Chunk { return impl.Chunk{Data: []byte(data)} }

func patchOf(l ...impl.Chunk) []impl.Chunk { return l }

// slowPatch tries the longest stretch first, and looks for it in all of old.
func slowPatch(old []byte, now []byte) ([]impl.Chunk, bool) {
	if len(old) > 400 || len(now) > 400 {
		return nil, false
	}
	var out []impl.Chunk
	open := false
	for at := 0; at < len(now); {
		many := len(now) - at
		for many >= 4 && !bytes.Contains(old, now[at:at+many]) {
			many--
		}
		if many >= 4 {
			out = append(out, stretchOf(bytes.Index(old, now[at:at+many]), many))
			at, open = at+many, false
			continue
		}
		if !open {
			out = append(out, impl.Chunk{})
		}
		last := &out[len(out)-1]
		last.Data = append(last.Data, now[at])
		at, open = at+1, true
	}
	return out, true
}

func slowApply(old []byte, patch []impl.Chunk) ([]byte, bool) {
	if len(old) > 400 || len(patch) > 400 {
		return nil, false
	}
	var out []byte
	for _, c := range patch {
		end := new(big.Int).Add(big.NewInt(int64(c.From)), big.NewInt(int64(c.Many)))
		switch {
		case len(c.Data) > 0 && c.From == 0 && c.Many == 0:
			out = append(out, c.Data...)
		case len(c.Data) == 0 && c.From >= 0 && c.Many >= 1 && end.Cmp(big.NewInt(int64(len(old)))) <= 0:
			for i := range c.Many {
				out = append(out, old[c.From+i])
			}
		default:
			return nil, false
		}
	}
	if len(out) > 400 {
		return nil, false
	}
	return out, true
}

func wantApply(t *testing.T, what string, old []byte, patch []impl.Chunk, want []byte, good bool) {
	t.Helper()
	if got := purely(t, "ApplyPatch", impl.ApplyPatch, old, patch); !alike(got[0], want) || got[1] != good {
		t.Errorf("%s: ApplyPatch %q, %v = %q, want %q, %v", what, old, patch, got, want, good)
	}
}

func wantSlowApply(t *testing.T, what string, old []byte, patch []impl.Chunk) {
	t.Helper()
	want, good := slowApply(old, patch)
	wantApply(t, what, old, patch, want, good)
}

// wantPatch asks for a patch, and that it makes now of old.
func wantPatch(t *testing.T, what string, old []byte, now []byte, want []impl.Chunk, good bool) {
	t.Helper()
	got := purely(t, "PatchOf", impl.PatchOf, old, now)
	if !alike(got[0], want) || got[1] != good {
		t.Errorf("%s: PatchOf %q, %q = %v, want %v, %v", what, old, now, got, want, good)
	}
	if good {
		wantApply(t, what, old, got[0].([]impl.Chunk), now, true)
	}
}

func wantSlowPatch(t *testing.T, what string, old []byte, now []byte) {
	t.Helper()
	want, good := slowPatch(old, now)
	wantPatch(t, what, old, now, want, good)
}

func TestPatchesTold(t *testing.T) {
	for _, c := range []struct {
		what string
		old  string
		now  string
		want []impl.Chunk
	}{
		{"of nothing to nothing", "", "", nil},
		{"to nothing", "abcdef", "", nil},
		{"from nothing", "", "abcdef", patchOf(bytesChunk("abcdef"))},
		{"from nothing, one byte", "", "a", patchOf(bytesChunk("a"))},
		{"one byte alike", "a", "a", patchOf(bytesChunk("a"))},
		{"three bytes alike", "abc", "abc", patchOf(bytesChunk("abc"))},
		{"four bytes alike", "abcd", "abcd", patchOf(stretchOf(0, 4))},
		{"five bytes alike", "abcde", "abcde", patchOf(stretchOf(0, 5))},
		{"a stretch of three within", "xxabcxx", "abcyyyy", patchOf(bytesChunk("abcyyyy"))},
		{"a stretch of four within", "xxabcdxx", "abcdyyyy", patchOf(stretchOf(2, 4), bytesChunk("yyyy"))},
		{"a stretch of five within", "xxabcdexx", "yabcdey", patchOf(bytesChunk("y"), stretchOf(2, 5), bytesChunk("y"))},
		{"a stretch at the end of old", "xxabcd", "abcd", patchOf(stretchOf(2, 4))},
		{"a stretch beyond the end of old", "xxabcd", "abcdx", patchOf(stretchOf(2, 4), bytesChunk("x"))},
		{"three at the end of old", "xxabc", "abcd", patchOf(bytesChunk("abcd"))},
		{"bytes at the front", "abcdef", "xyabcdef", patchOf(bytesChunk("xy"), stretchOf(0, 6))},
		{"bytes at the end", "abcdef", "abcdefxy", patchOf(stretchOf(0, 6), bytesChunk("xy"))},
		{"bytes between two stretches", "abcdefgh", "abcd--efgh", patchOf(stretchOf(0, 4), bytesChunk("--"), stretchOf(4, 4))},
		{"bytes at all places", "abcdefgh", "1abcd2efgh3", patchOf(bytesChunk("1"), stretchOf(0, 4), bytesChunk("2"), stretchOf(4, 4), bytesChunk("3"))},
		{"two stretches side by side", "abcd-efgh", "abcdefgh", patchOf(stretchOf(0, 4), stretchOf(5, 4))},
		{"two stretches exchanged", "abcdefgh", "efghabcd", patchOf(stretchOf(4, 4), stretchOf(0, 4))},
		{"one stretch again and again", "abcd", "abcdabcdabcd", patchOf(stretchOf(0, 4), stretchOf(0, 4), stretchOf(0, 4))},
		{"several places of one stretch", "abcd-abcd-abcd", "abcd", patchOf(stretchOf(0, 4))},
		{"several places, longer at the second", "abcdx-abcde", "abcde", patchOf(stretchOf(6, 5))},
		{"several places, longer at the second and the third", "abcdx-abcde-abcdef", "abcdey", patchOf(stretchOf(6, 5), bytesChunk("y"))},
		{"several places, longer at the first", "abcdefg-abcde", "abcdefz", patchOf(stretchOf(0, 6), bytesChunk("z"))},
		{"stretches that overlap in old", "abcdef", "abcdcdef", patchOf(stretchOf(0, 4), stretchOf(2, 4))},
		{"stretches that overlap in now: from the front", "abcde-cdefghi", "abcdefghi", patchOf(stretchOf(0, 5), stretchOf(9, 4))},
		{"what is left behind the first one is too short", "abcde-defgh", "abcdefg", patchOf(stretchOf(0, 5), bytesChunk("fg"))},
		{"a byte late would be longer", "abcd-bcdefgh", "abcdefgh", patchOf(stretchOf(0, 4), stretchOf(8, 4))},
		{"three, and a longer one a byte late", "abcx-bcdefgh", "abcdefgh", patchOf(bytesChunk("a"), stretchOf(5, 7))},
		{"all alike", "aaaaaaaa", "aaaaaaaa", patchOf(stretchOf(0, 8))},
		{"fewer alike", "aaaaaaaa", "aaaaa", patchOf(stretchOf(0, 5))},
		{"more alike", "aaaaa", "aaaaaaaa", patchOf(stretchOf(0, 5), bytesChunk("aaa"))},
		{"more alike, twice", "aaaa", "aaaaaaaab", patchOf(stretchOf(0, 4), stretchOf(0, 4), bytesChunk("b"))},
		{"alike at the end of old", "baaaab", "aaaab", patchOf(stretchOf(1, 5))},
		{"a longer one behind the first place", "aaaabaaaaa", "aaaaa", patchOf(stretchOf(5, 5))},
		{"nothing alike", "abcdef", "uvwxyz", patchOf(bytesChunk("uvwxyz"))},
		{"turned about", "abcdef", "fedcba", patchOf(bytesChunk("fedcba"))},
		{"noughts", "\x00\x00\x00\x00", "\x00\x00\x00\x00\x00", patchOf(stretchOf(0, 4), bytesChunk("\x00"))},
		{"any bytes", "\xff\x00\n\x80x", "\xff\x00\n\x80", patchOf(stretchOf(0, 4))},
	} {
		wantPatch(t, c.what, []byte(c.old), []byte(c.now), c.want, true)
		wantSlowPatch(t, c.what, []byte(c.old), []byte(c.now))
		wantSlowPatch(t, c.what+", back", []byte(c.now), []byte(c.old))
	}
}

// growing gives so many bytes in which no four side by side stand twice.
func growing(many int) []byte {
	var out []byte
	for i := 0; len(out) < many; i++ {
		out = append(out, byte(i), byte(i>>4), 0xf0)
	}
	return out[:many]
}

func TestPatchesAtTheMost(t *testing.T) {
	for _, many := range []int{mostBytes - 1, mostBytes, mostBytes + 1, mostBytes + 2, 100000} {
		good := many <= mostBytes
		row, other := growing(many), bytes.Repeat([]byte{7}, many)
		whole, all := patchOf(stretchOf(0, many)), patchOf(impl.Chunk{Data: row})
		if !good {
			whole, all = nil, nil
		}
		wantPatch(t, "the same", row, row, whole, good)
		wantPatch(t, "the same, all alike", other, other, whole, good)
		wantPatch(t, "from nothing", nil, row, all, good)
		wantPatch(t, "to nothing", row, nil, nil, good)
		wantPatch(t, "nothing in common", other, row, all, good)
		if good {
			wantPatch(t, "one byte at the front of all", row, append([]byte{9}, row[:many-1]...), patchOf(bytesChunk("\x09"), stretchOf(0, many-1)), true)
			wantPatch(t, "the last four", row, row[many-4:], patchOf(stretchOf(many-4, 4)), true)
			wantSlowPatch(t, "all alike, from few", other[:5], other)
			wantSlowPatch(t, "all alike, from four", other[:4], other)
		}
	}
}

// shortTexts gives all texts of up to so many of two letters.
func shortTexts(most int) [][]byte {
	out := [][]byte{nil}
	for from := 0; from < len(out); from++ {
		if len(out[from]) < most {
			out = append(out, append(slices.Clone(out[from]), 'a'), append(slices.Clone(out[from]), 'b'))
		}
	}
	return out
}

// Promise 21: patches make what is told, of all short texts, from all short texts.
func TestPatchesOfAllShortTexts(t *testing.T) {
	texts := shortTexts(7)
	stretches := 0
	for _, old := range texts {
		for _, now := range texts {
			patch, good := impl.PatchOf(old, now)
			want, _ := slowPatch(old, now)
			if !good || !alike(patch, want) {
				t.Fatalf("%q, %q: %v, want %v", old, now, patch, want)
			}
			made, good := impl.ApplyPatch(old, patch)
			if !good || !bytes.Equal(made, now) {
				t.Fatalf("%q, %q: %v makes %q", old, now, patch, made)
			}
			if slices.ContainsFunc(patch, func(c impl.Chunk) bool { return c.Many > 0 }) {
				stretches++
			}
		}
	}
	if stretches < 5000 {
		t.Error(stretches)
	}
}

// coinEdit cuts, doubles and moves pieces of a row about, and lays other bytes between.
func coinEdit(next func(int) int, old []byte, of string) []byte {
	var out []byte
	for range 1 + next(12) {
		if len(old) == 0 || next(3) == 0 {
			out = append(out, coinBytes(next, next(6), of)...)
			continue
		}
		from := next(len(old))
		out = append(out, old[from:min(len(old), from+1+next(60))]...)
	}
	return out[:min(len(out), mostBytes)]
}

// Promise 21: chunks stand side by side as told, stretches are as long as they can be, and all of it makes now.
func TestPatchesMakeWhatIsTold(t *testing.T) {
	stretches, datas := 0, 0
	for seed := range 800 {
		next := coinRow(seed + 21300)
		of := coinOf(next, []string{"a", "ab", "abc", "abcdefgh\x00\xff", "\x00\x01"})
		old := coinBytes(next, next(mostBytes+1), of)
		now := coinEdit(next, old, of)
		if seed%5 == 0 {
			now = coinBytes(next, next(mostBytes+1), of)
		}
		wantSlowPatch(t, "coins", old, now)
		wantSlowPatch(t, "coins, back", now, old)
		patch, _ := impl.PatchOf(old, now)
		at := 0
		for i, c := range patch {
			if len(c.Data) > 0 {
				datas++
				if i > 0 && len(patch[i-1].Data) > 0 || c.From != 0 || c.Many != 0 {
					t.Fatalf("%q, %q: %v", old, now, patch)
				}
				at += len(c.Data)
				continue
			}
			stretches++
			end := at + c.Many
			if c.Many < 4 || bytes.Index(old, now[at:end]) != c.From || end < len(now) && bytes.Contains(old, now[at:end+1]) {
				t.Fatalf("%q, %q: %v at %d", old, now, patch, i)
			}
			at = end
		}
	}
	if stretches < 3000 || datas < 500 {
		t.Error(stretches, datas)
	}
}

func TestApplyPatchTold(t *testing.T) {
	for _, c := range []struct {
		what  string
		old   string
		patch []impl.Chunk
		want  string
		good  bool
	}{
		{"no chunk of nothing", "", nil, "", true},
		{"no chunk", "abc", nil, "", true},
		{"data", "", patchOf(bytesChunk("xyz")), "xyz", true},
		{"data twice, side by side", "abc", patchOf(bytesChunk("x"), bytesChunk("y")), "xy", true},
		{"one byte of old", "abc", patchOf(stretchOf(1, 1)), "b", true},
		{"all of old", "abc", patchOf(stretchOf(0, 3)), "abc", true},
		{"the last byte of old", "abc", patchOf(stretchOf(2, 1)), "c", true},
		{"old twice", "abc", patchOf(stretchOf(0, 3), stretchOf(0, 3)), "abcabc", true},
		{"overlapping", "abc", patchOf(stretchOf(1, 2), stretchOf(0, 2)), "bcab", true},
		{"both in turn", "abc", patchOf(bytesChunk("<"), stretchOf(0, 2), bytesChunk("|"), stretchOf(2, 1), bytesChunk(">")), "<ab|c>", true},
		{"data with noughts", "abc", patchOf(bytesChunk("\x00\xff")), "\x00\xff", true},
		{"one byte too many", "abc", patchOf(stretchOf(0, 4)), "", false},
		{"one byte behind", "abc", patchOf(stretchOf(3, 1)), "", false},
		{"over the end", "abc", patchOf(stretchOf(2, 2)), "", false},
		{"none, at the end", "abc", patchOf(stretchOf(3, 0)), "", false},
		{"none at all", "abc", patchOf(impl.Chunk{}), "", false},
		{"none behind data", "abc", patchOf(bytesChunk("x"), impl.Chunk{}), "", false},
		{"empty data", "abc", patchOf(impl.Chunk{Data: []byte{}}), "", false},
		{"empty data and a stretch", "abc", patchOf(impl.Chunk{From: 1, Many: 2, Data: []byte{}}), "bc", true},
		{"Many below 0", "abc", patchOf(stretchOf(2, -1)), "", false},
		{"From below 0", "abc", patchOf(stretchOf(-1, 1)), "", false},
		{"From below 0, within at its end", "abc", patchOf(stretchOf(-1, 2)), "", false},
		{"both below 0", "abc", patchOf(stretchOf(-1, -1)), "", false},
		{"data and From", "abc", patchOf(impl.Chunk{From: 1, Data: []byte("x")}), "", false},
		{"data and Many", "abc", patchOf(impl.Chunk{Many: 1, Data: []byte("x")}), "", false},
		{"data and both", "abc", patchOf(impl.Chunk{From: 1, Many: 1, Data: []byte("x")}), "", false},
		{"data and From below 0", "abc", patchOf(impl.Chunk{From: -1, Data: []byte("x")}), "", false},
		{"data and Many below 0", "abc", patchOf(impl.Chunk{Many: -1, Data: []byte("x")}), "", false},
		{"data and a pair that is nothing together", "abc", patchOf(impl.Chunk{From: 1, Many: -1, Data: []byte("x")}), "", false},
		{"a stretch of nothing", "", patchOf(stretchOf(0, 1)), "", false},
		{"the last one is not good", "abc", patchOf(stretchOf(0, 3), bytesChunk("x"), stretchOf(0, 4)), "", false},
		{"the first one is not good", "abc", patchOf(stretchOf(0, 4), bytesChunk("x"), stretchOf(0, 3)), "", false},
	} {
		wantApply(t, c.what, []byte(c.old), c.patch, []byte(c.want), c.good)
		wantSlowApply(t, c.what, []byte(c.old), c.patch)
	}
}

// From and Many at and beyond the edges of old, and as great as numbers go.
func TestApplyPatchAtTheEdges(t *testing.T) {
	numbers := append(farNumbers(), -1<<63+5, -6, -5, -4, -1, 0, 1, 2, 3, 4, 5, 6, 399, 400, 401, 1<<31, 1<<32, 1<<62, math.MaxInt-4, math.MaxInt-5)
	for _, old := range [][]byte{nil, []byte("a"), []byte("abcde"), growing(mostBytes)} {
		for _, from := range numbers {
			for _, many := range numbers {
				wantSlowApply(t, "edges", old, patchOf(stretchOf(from, many)))
				if from != 0 || many != 0 {
					wantApply(t, "data too", old, patchOf(impl.Chunk{From: from, Many: many, Data: []byte("x")}), nil, false)
				}
			}
		}
	}
}

func TestApplyPatchAtTheMost(t *testing.T) {
	row := growing(mostBytes)
	one, byOne := make([]impl.Chunk, mostBytes), make([]impl.Chunk, mostBytes)
	for i := range mostBytes {
		one[i], byOne[i] = stretchOf(i, 1), impl.Chunk{Data: row[i : i+1 : i+1]}
	}
	wantApply(t, "as many chunks as may be", row, one, row, true)
	wantApply(t, "as many chunks of data", nil, byOne, row, true)
	for _, more := range [][]impl.Chunk{one, byOne} {
		wantApply(t, "one chunk too many", row, append(slices.Clone(more), stretchOf(0, 1)), nil, false)
		wantApply(t, "one chunk too many, of data", row, append(slices.Clone(more), bytesChunk("x")), nil, false)
		wantApply(t, "far too many chunks", row, slices.Repeat(more, 20), nil, false)
		wantApply(t, "just as many bytes in two", row, append(slices.Clone(more[:399]), bytesChunk("x")), append(slices.Clone(row[:399]), 'x'), true)
		wantApply(t, "one byte too many", row, append(slices.Clone(more[:399]), bytesChunk("xy")), nil, false)
		wantApply(t, "one byte too many by a stretch", row, append(slices.Clone(more[:399]), stretchOf(7, 2)), nil, false)
	}
	wantApply(t, "all of it at once", row, patchOf(stretchOf(0, 400)), row, true)
	wantApply(t, "all of it and one byte", row, patchOf(stretchOf(0, 400), bytesChunk("x")), nil, false)
	wantApply(t, "one byte and all of it", row, patchOf(bytesChunk("x"), stretchOf(0, 400)), nil, false)
	wantApply(t, "all of it twice", row, patchOf(stretchOf(0, 400), stretchOf(0, 400)), nil, false)
	wantApply(t, "all of it as often as may be", row, slices.Repeat(patchOf(stretchOf(0, 400)), 400), nil, false)
	wantApply(t, "data at the most", nil, patchOf(impl.Chunk{Data: row}), row, true)
	wantApply(t, "data one byte too long", nil, patchOf(impl.Chunk{Data: append(slices.Clone(row), 1)}), nil, false)
	wantApply(t, "data far too long", nil, patchOf(impl.Chunk{Data: make([]byte, 100000)}), nil, false)
	for _, patch := range [][]impl.Chunk{nil, patchOf(bytesChunk("x")), patchOf(stretchOf(0, 1))} {
		wantApply(t, "old one byte too long", append(slices.Clone(row), 1), patch, nil, false)
		wantApply(t, "old far too long", make([]byte, 100000), patch, nil, false)
	}
	wantApply(t, "a chunk that is not good behind what is too long", row, patchOf(stretchOf(0, 400), stretchOf(0, 400), impl.Chunk{}), nil, false)
}

// Patches of anything, whoever made them.
func TestApplyPatchOfCoins(t *testing.T) {
	goods := 0
	for seed := range 2500 {
		next := coinRow(seed + 21400)
		old := coinBytes(next, coinOf(next, []int{0, 1, 9, 60, 399, 400, 401}), "abc")
		var patch []impl.Chunk
		for range next(12) {
			switch {
			case next(3) == 0 || len(old) == 0:
				patch = append(patch, impl.Chunk{Data: coinBytes(next, 1+next(40), "xyz")})
			default:
				from := next(len(old))
				patch = append(patch, stretchOf(from, 1+next(min(len(old)-from, 60))))
			}
		}
		if len(patch) > 0 && next(4) == 0 {
			c := &patch[next(len(patch))]
			switch next(4) {
			case 0:
				c.From += coinOf(next, append(farNumbers(), -1, 1, 60))
			case 1:
				c.Many += coinOf(next, append(farNumbers(), -1, 1, 60))
			case 2:
				c.Data = nil
			case 3:
				c.Data = append(slices.Clone(c.Data), 'x')
			}
		}
		wantSlowApply(t, "coins", old, patch)
		if _, good := impl.ApplyPatch(old, patch); good {
			goods++
		}
	}
	if goods < 800 || goods > 2200 {
		t.Error(goods)
	}
}

// A patch holds no byte of what it was made of: it makes the same when both are written over.
func TestPatchesAreTheirOwn(t *testing.T) {
	old, now := []byte("abcdefgh"), []byte("xxabcdyyefghzz")
	patch, good := impl.PatchOf(old, now)
	clear(now)
	made, made2 := bytes.Clone(old), bytes.Clone(old)
	clear(old)
	if !good {
		t.Fatal(patch)
	}
	first, _ := impl.ApplyPatch(made, patch)
	for i := range patch {
		clear(patch[i].Data)
	}
	clear(made)
	if string(first) != "xxabcdyyefghzz" {
		t.Errorf("%q", first)
	}
	second, _ := impl.ApplyPatch(made2, patch)
	if string(second) != "\x00\x00abcd\x00\x00efgh\x00\x00" {
		t.Errorf("%q", second)
	}
}

func spoiledAssets(l []impl.Asset, next func(int) int) []impl.Asset {
	if len(l) == 0 {
		return []impl.Asset{{Name: strangeName(next), Data: make([]byte, coinOf(next, []int{0, 1, 400, 401}))}}
	}
	out := copiedAssets(l)
	a := &out[next(len(out))]
	switch next(5) {
	case 0:
		a.Name = strangeName(next)
	case 1:
		a.Needs = append(a.Needs, strangeName(next))
	case 2:
		a.Needs = append(a.Needs, coinOf(next, out).Name)
		slices.Sort(a.Needs)
	case 3:
		a.Data = make([]byte, coinOf(next, []int{0, 1, 399, 400, 401, 402}))
	case 4:
		out = append(out, coinOf(next, out))
	}
	return out
}

// coinStore gives a good store, most of the times one that is nearly full.
func coinStore(next func(int) int) impl.Store {
	s := storeOf(1, coinOf(next, []int{40, 41, 100, 5000, lastTime - 2, lastTime - 1, lastTime}))
	used := counted(40)
	for _, name := range manyNames(coinOf(next, []int{0, 1, 4, 9, 29, 30})) {
		at := next(len(used))
		r := resident(name, 1+next(20), coinOf(next, []int{0, 0, 1, 2, 1000}), used[at])
		if used = slices.Delete(used, at, at+1); next(4) == 0 {
			r.Used = 0
		}
		s.In = append(s.In, r)
		s.Budget += r.Size
	}
	s.Budget += coinOf(next, []int{-1, 0, 5, 40})
	s.Budget = max(1, s.Budget)
	return s
}

func spoiledStore(s impl.Store, next func(int) int) impl.Store {
	strange := append(farNumbers(), -1, 0, 1, 1000, 1001, lastTime, lastTime+1)
	s.In = slices.Clone(s.In)
	if len(s.In) == 0 || next(4) == 0 {
		*coinOf(next, []*int{&s.Budget, &s.Clock}) = coinOf(next, strange)
		return s
	}
	r := &s.In[next(len(s.In))]
	if next(4) == 0 {
		r.Name = strangeName(next)
		return s
	}
	*coinOf(next, []*int{&r.Size, &r.Held, &r.Used}) = coinOf(next, append(strange, coinOf(next, s.In).Used))
	return s
}

// Promise 29.
func TestAssetsAnswerAtAnyArguments(t *testing.T) {
	kinds := map[string]int{}
	for seed := range 1200 {
		next := coinRow(seed + 2921)
		l := coinAssets(next, coinOf(next, []int{0, 1, 3, 8, 29, 30, 31}), next(4))
		other := copiedAssets(l)
		if next(2) == 0 {
			l = spoiledAssets(l, next)
		}
		if next(2) == 0 {
			other = spoiledAssets(other, next)
		}
		s, name, size := coinStore(next), strangeName(next), 1+next(90)
		if next(4) == 0 {
			s = spoiledStore(s, next)
		}
		if len(s.In) > 0 && next(2) == 0 {
			r := coinOf(next, s.In)
			name, size = r.Name, r.Size
		}
		if next(5) == 0 {
			size = coinOf(next, fetchSizes())
		}
		old, now := coinBytes(next, coinOf(next, []int{0, 3, 30, 400, 401}), "ab"), coinBytes(next, coinOf(next, []int{0, 3, 30, 400, 401}), "ab")
		_, _, code := slowFetch(s, name, size)
		for what, good := range map[string]bool{"assets": slowGoodAssets(l), "others": slowGoodAssets(other), "store": slowGoodStore(s), "bytes": len(old) <= mostBytes && len(now) <= mostBytes} {
			kinds[fmt.Sprint(what, " ", good)]++
		}
		kinds[fmt.Sprint("code ", code)]++
		wantGoodAssets(t, "any", l, slowGoodAssets(l))
		order, good := slowOrder(l)
		wantMakeOrder(t, "any", l, order, good)
		stamp, good := slowStamp(l, name)
		wantStamp(t, "any", l, name, stamp, good)
		wantSlowStale(t, "any", l, other)
		wantSlowStale(t, "any", other, l)
		wantGoodStore(t, "any", s, slowGoodStore(s))
		wantSlowFetch(t, "any", s, name, size)
		wantSlowRelease(t, "any", s, name)
		wantSlowPatch(t, "any", old, now)
		wantSlowApply(t, "any", old, patchOf(bytesChunk("x"), stretchOf(next(40)-3, next(40)-3), impl.Chunk{Data: now}))
	}
	for _, kind := range []string{"assets true", "assets false", "others true", "others false", "store true", "store false", "bytes true", "bytes false", "code 0", "code 1", "code 2", "code 3", "code 4"} {
		if kinds[kind] < 40 {
			t.Error(kinds)
		}
	}
}

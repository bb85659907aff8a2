package tests

import (
	"fmt"
	"maps"
	"math"
	"slices"
	"strings"
	"testing"

	"loop.example/g00064/impl"
)

// The greatest Next that a world may have.
const lastNext = 1000000

// The greatest name of all, by bytes.
var longName = strings.Repeat("z", impl.MaxName)

func part(name string, value int, tick int) impl.Part {
	return impl.Part{Name: name, Value: value, Tick: tick}
}

// thing makes an entity out of parts without value, all of one tick.
func thing(id int, tick int, names ...string) impl.Entity {
	e := impl.Entity{Id: id}
	for _, name := range names {
		e.Parts = append(e.Parts, impl.Part{Name: name, Tick: tick})
	}
	return e
}

// manyNames gives that many names, rising.
func manyNames(many int) []string {
	var out []string
	for i := range many {
		out = append(out, fmt.Sprintf("n%02d", i))
	}
	return out
}

// manyThings gives a world of that many entities without parts.
func manyThings(many int) impl.World {
	w := impl.World{Next: many + 1}
	for i := range many {
		w.Entities = append(w.Entities, impl.Entity{Id: i + 1})
	}
	return w
}

// smallWorld has entities of several kinds, ticks of several ages, and a gap among its Ids.
func smallWorld() impl.World {
	return impl.World{Next: 9, Tick: 5, Entities: []impl.Entity{
		{Id: 1, Parts: []impl.Part{part("a", 10, 5), part("ab", -3, 0), part("b", math.MaxInt, 2)}},
		{Id: 2},
		{Id: 4, Parts: []impl.Part{part("a", 0, 1)}},
		{Id: 5, Parts: []impl.Part{part("a", 7, 3), part("b", 8, 4)}},
		{Id: 6, Parts: []impl.Part{part("ab", math.MinInt, 5)}},
		{Id: 8, Parts: []impl.Part{part("a", 1, 0), part("b", 1, 0)}},
	}}
}

// goodWorlds holds ordinary worlds and those that meet a limit exactly.
func goodWorlds() map[string]impl.World {
	full := thing(1, 0, manyNames(impl.MaxParts)...)
	return map[string]impl.World{
		"new":               {Next: 1},
		"small":             smallWorld(),
		"Next at the limit": {Next: lastNext, Entities: []impl.Entity{thing(1, 0), thing(lastNext-1, 0, "a")}},
		"Tick at the limit": {Next: 2, Tick: impl.MaxTick, Entities: []impl.Entity{thing(1, impl.MaxTick, "a")}},
		"many entities":     manyThings(impl.MaxEntities),
		"one fewer":         manyThings(impl.MaxEntities - 1),
		"many parts":        {Next: 3, Entities: []impl.Entity{full, thing(2, 0, manyNames(impl.MaxParts-1)...)}},
		"names of any kind": {Next: 2, Entities: []impl.Entity{thing(1, 0, "A", "Z9", "_", "_1", "a", "a_", "aa", longName)}},
		"Ids at both ends":  {Next: 3, Tick: 1, Entities: []impl.Entity{thing(1, 1, "a"), thing(2, 0, "a")}},
	}
}

// badWorlds holds a world for each way in which one is not good, and where two of them meet.
func badWorlds() map[string]impl.World {
	one := func(e ...impl.Entity) impl.World { return impl.World{Next: 5, Tick: 3, Entities: e} }
	return map[string]impl.World{
		"the zero world":        {},
		"Next below 1":          {Next: -1},
		"Next above":            {Next: lastNext + 1},
		"Next far above":        {Next: math.MaxInt},
		"Tick below 0":          {Next: 1, Tick: -1},
		"Tick above":            {Next: 1, Tick: impl.MaxTick + 1},
		"an entity too many":    manyThings(impl.MaxEntities + 1),
		"Id 0":                  one(thing(0, 0)),
		"Id below 0":            one(thing(-1, 0)),
		"Id Next":               one(thing(5, 0)),
		"Id above Next":         one(thing(6, 0)),
		"Ids alike":             one(thing(2, 0), thing(2, 0)),
		"Ids falling":           one(thing(2, 0), thing(1, 0)),
		"the last Id falls":     one(thing(1, 0), thing(3, 0), thing(2, 0)),
		"a part too many":       one(thing(1, 0, manyNames(impl.MaxParts+1)...)),
		"names alike":           one(thing(1, 0, "a", "a")),
		"names falling":         one(thing(1, 0, "b", "a")),
		"a beginning behind":    one(thing(1, 0, "ab", "a")),
		"small letters first":   one(thing(1, 0, "a", "B")),
		"an empty name":         one(thing(1, 0, "")),
		"a digit first":         one(thing(1, 0, "1a")),
		"a name too long":       one(thing(1, 0, longName+"z")),
		"a byte of no name":     one(thing(1, 0, "a-b")),
		"a rune of no name":     one(thing(1, 0, "é")),
		"the last name":         one(thing(1, 0), thing(2, 0, "a", "b", "c d")),
		"a part's tick below 0": one(thing(1, -1, "a")),
		"a part's tick above":   one(thing(1, 4, "a")),
		"the last part's tick":  one(thing(3, 3, "a"), impl.Entity{Id: 4, Parts: []impl.Part{part("a", 0, 0), part("b", 0, 4)}}),
		"full and not good":     {Next: lastNext, Tick: impl.MaxTick, Entities: []impl.Entity{thing(lastNext, 0)}},
	}
}

// badNames holds a text for each way in which one is no name.
func badNames() []string {
	return []string{"", "1", "9a", "a b", "a-", "-a", "é", "a\x00", "a\n", longName + "z", strings.Repeat("a", 100000)}
}

// manyIds holds Ids on both sides of all limits.
func manyIds() []int {
	return []int{math.MinInt, -lastNext, -1, 0, 1, 2, 3, 4, 5, 6, 7, 8, 9, 59, 60, 61, lastNext - 1, lastNext, lastNext + 1, math.MaxInt}
}

// slowGoodName asks byte by byte what the document says.
func slowGoodName(s string) bool {
	const letters = "abcdefghijklmnopqrstuvwxyzABCDEFGHIJKLMNOPQRSTUVWXYZ_"
	return s != "" && len(s) <= 20 && strings.Trim(s, letters+"0123456789") == "" && strings.Contains(letters, s[:1])
}

// slowGoodWorld asks each thing by itself, and each pair.
func slowGoodWorld(w impl.World) bool {
	good := 1 <= w.Next && w.Next <= 1000000 && 0 <= w.Tick && w.Tick <= 1000000 && len(w.Entities) <= 60
	for i, e := range w.Entities {
		good = good && 1 <= e.Id && e.Id <= w.Next-1 && len(e.Parts) <= 12
		for _, before := range w.Entities[:i] {
			good = good && before.Id < e.Id
		}
		for j, p := range e.Parts {
			good = good && slowGoodName(p.Name) && 0 <= p.Tick && p.Tick <= w.Tick
			for _, before := range e.Parts[:j] {
				good = good && strings.Compare(before.Name, p.Name) < 0
			}
		}
	}
	return good
}

func TestConstantsOfWorlds(t *testing.T) {
	if impl.MaxEntities != 60 || impl.MaxParts != 12 || impl.MaxTick != 1000000 {
		t.Error("limits", impl.MaxEntities, impl.MaxParts, impl.MaxTick)
	}
	codes := []int{impl.WorldOk, impl.WorldBad, impl.WorldNone, impl.WorldFull, impl.WorldName}
	if !slices.Equal(codes, []int{0, 1, 2, 3, 4}) {
		t.Error("codes", codes)
	}
}

func TestNewWorld(t *testing.T) {
	got := purely(t, "NewWorld", impl.NewWorld)
	if !alike(got[0], impl.World{Next: 1}) {
		t.Error("NewWorld", got[0])
	}
	if !impl.GoodWorld(impl.NewWorld()) {
		t.Error("a new world is good")
	}
}

func TestGoodWorld(t *testing.T) {
	for what, w := range goodWorlds() {
		if got := purely(t, what, impl.GoodWorld, w); got[0] != true || !slowGoodWorld(w) {
			t.Errorf("%s: not good", what)
		}
	}
	for what, w := range badWorlds() {
		if got := purely(t, what, impl.GoodWorld, w); got[0] != false || slowGoodWorld(w) {
			t.Errorf("%s: good", what)
		}
	}
}

// One thing of a good world is made another, at each place.
func TestGoodWorldWithOneThingChanged(t *testing.T) {
	numbers := append(manyIds(), impl.MaxTick, impl.MaxTick+1)
	names := append(badNames(), "a", "aa", "ab", "abc", "b", "c", "A", "_", longName)
	ask := func(w impl.World, what string) {
		if got, want := impl.GoodWorld(w), slowGoodWorld(w); got != want {
			t.Errorf("%s: %v, and it is %v: %v", what, got, want, w)
		}
	}
	for _, n := range numbers {
		w := smallWorld()
		w.Next = n
		ask(w, "Next")
		w = smallWorld()
		w.Tick = n
		ask(w, "Tick")
		for i, e := range smallWorld().Entities {
			w = smallWorld()
			w.Entities[i].Id = n
			ask(w, "Id")
			for j := range e.Parts {
				w = smallWorld()
				w.Entities[i].Parts[j].Tick = n
				ask(w, "a part's Tick")
				w = smallWorld()
				w.Entities[i].Parts[j].Value = n
				ask(w, "a part's Value")
			}
		}
	}
	for _, name := range names {
		for i, e := range smallWorld().Entities {
			for j := range e.Parts {
				w := smallWorld()
				w.Entities[i].Parts[j].Name = name
				ask(w, "a part's Name")
			}
		}
	}
}

// wantWorld asks for a world and a code, and that nothing was written.
func wantWorld(t *testing.T, what string, got []any, world impl.World, code int) {
	t.Helper()
	if len(got) != 2 || !alike(got[0], world) || got[1] != code {
		t.Errorf("%s: %v, wanted %v with %d", what, got, world, code)
	}
}

func wantSpawn(t *testing.T, what string, w impl.World, want impl.World, id int, code int) {
	t.Helper()
	got := purely(t, what, impl.Spawn, w)
	if !alike(got[0], want) || got[1] != id || got[2] != code {
		t.Errorf("%s: %v, wanted %v with %d and %d", what, got, want, id, code)
	}
}

func TestSpawn(t *testing.T) {
	then := smallWorld()
	then.Next = 10
	then.Entities = append(then.Entities, impl.Entity{Id: 9})
	wantSpawn(t, "small", smallWorld(), then, 9, impl.WorldOk)
	wantSpawn(t, "new", impl.NewWorld(), manyThings(1), 1, impl.WorldOk)
	wantSpawn(t, "the last that fits", manyThings(impl.MaxEntities-1), manyThings(impl.MaxEntities), impl.MaxEntities, impl.WorldOk)
	wantSpawn(t, "one more", manyThings(impl.MaxEntities), manyThings(impl.MaxEntities), 0, impl.WorldFull)

	last := impl.World{Next: lastNext - 1, Tick: impl.MaxTick}
	wantSpawn(t, "the last Id", last, impl.World{Next: lastNext, Tick: impl.MaxTick, Entities: []impl.Entity{{Id: lastNext - 1}}}, lastNext-1, impl.WorldOk)
	none := impl.World{Next: lastNext, Tick: 4, Entities: []impl.Entity{thing(3, 2, "a")}}
	wantSpawn(t, "no Id left", none, none, 0, impl.WorldFull)
	for what, w := range badWorlds() {
		wantSpawn(t, what, w, impl.World{}, 0, impl.WorldBad)
	}
}

// An Id that was is not given again.
func TestSpawnBehindDespawn(t *testing.T) {
	w, code := impl.Despawn(manyThings(3), 3)
	if code != impl.WorldOk || w.Next != 4 {
		t.Fatal(w, code)
	}
	wantSpawn(t, "behind a Despawn", w, impl.World{Next: 5, Entities: []impl.Entity{{Id: 1}, {Id: 2}, {Id: 4}}}, 4, impl.WorldOk)
}

func TestDespawn(t *testing.T) {
	for at, e := range smallWorld().Entities {
		then := smallWorld()
		then.Entities = slices.Delete(then.Entities, at, at+1)
		wantWorld(t, "Despawn", purely(t, "Despawn", impl.Despawn, smallWorld(), e.Id), then, impl.WorldOk)
	}
	wantWorld(t, "the only one", purely(t, "Despawn", impl.Despawn, manyThings(1), 1), impl.World{Next: 2}, impl.WorldOk)
	limit := impl.World{Next: lastNext, Tick: impl.MaxTick, Entities: []impl.Entity{thing(1, 2, "a"), thing(lastNext-1, 3, "b")}}
	then := impl.World{Next: lastNext, Tick: impl.MaxTick, Entities: []impl.Entity{thing(1, 2, "a")}}
	wantWorld(t, "Id Next - 1", purely(t, "Despawn", impl.Despawn, limit, lastNext-1), then, impl.WorldOk)
	for what, w := range badWorlds() {
		for _, id := range manyIds() {
			wantWorld(t, what, purely(t, what, impl.Despawn, w, id), impl.World{}, impl.WorldBad)
		}
	}
}

// hasId tells whether a world has an entity of that Id, and its parts.
func hasId(w impl.World, id int) ([]impl.Part, bool) {
	for _, e := range w.Entities {
		if e.Id == id {
			return e.Parts, true
		}
	}
	return nil, false
}

func TestAnIdThatIsNoneChangesNothing(t *testing.T) {
	for what, w := range goodWorlds() {
		for _, id := range manyIds() {
			if _, there := hasId(w, id); there {
				continue
			}
			wantWorld(t, what, purely(t, what, impl.Despawn, w, id), w, impl.WorldNone)
			wantWorld(t, what, purely(t, what, impl.SetPart, w, id, "a", 1), w, impl.WorldNone)
			wantWorld(t, what, purely(t, what, impl.DropPart, w, id, "a"), w, impl.WorldNone)
		}
	}
}

func TestSetPart(t *testing.T) {
	base := impl.World{Next: 4, Tick: 7, Entities: []impl.Entity{thing(1, 3, "b"), {Id: 3, Parts: []impl.Part{part("b", 5, 2), part("d", 6, 7)}}}}
	for _, c := range []struct {
		id    int
		name  string
		value int
		want  []impl.Part
	}{
		{3, "a", 1, []impl.Part{part("a", 1, 7), part("b", 5, 2), part("d", 6, 7)}},
		{3, "bb", -1, []impl.Part{part("b", 5, 2), part("bb", -1, 7), part("d", 6, 7)}},
		{3, "dd", math.MaxInt, []impl.Part{part("b", 5, 2), part("d", 6, 7), part("dd", math.MaxInt, 7)}},
		{3, "B", 0, []impl.Part{part("B", 0, 7), part("b", 5, 2), part("d", 6, 7)}},
		{3, longName, math.MinInt, []impl.Part{part("b", 5, 2), part("d", 6, 7), part(longName, math.MinInt, 7)}},
		{3, "b", 9, []impl.Part{part("b", 9, 7), part("d", 6, 7)}},
		{3, "b", 5, []impl.Part{part("b", 5, 7), part("d", 6, 7)}},
		{3, "d", 6, []impl.Part{part("b", 5, 2), part("d", 6, 7)}},
	} {
		then := impl.World{Next: 4, Tick: 7, Entities: []impl.Entity{thing(1, 3, "b"), {Id: 3, Parts: c.want}}}
		wantWorld(t, c.name, purely(t, c.name, impl.SetPart, base, c.id, c.name, c.value), then, impl.WorldOk)
	}
	first := impl.World{Next: 4, Tick: 7, Entities: []impl.Entity{{Id: 1, Parts: []impl.Part{part("b", 2, 7)}}, base.Entities[1]}}
	wantWorld(t, "the first entity", purely(t, "SetPart", impl.SetPart, base, 1, "b", 2), first, impl.WorldOk)
}

func TestSetPartAtTheLimit(t *testing.T) {
	names := manyNames(impl.MaxParts)
	full := impl.World{Next: 2, Tick: 1, Entities: []impl.Entity{thing(1, 0, names...)}}
	for _, name := range []string{"a", "n00_", "z"} {
		wantWorld(t, "one part more", purely(t, name, impl.SetPart, full, 1, name, 1), full, impl.WorldFull)
	}
	for at, name := range names {
		then := impl.World{Next: 2, Tick: 1, Entities: []impl.Entity{thing(1, 0, names...)}}
		then.Entities[0].Parts[at] = impl.Part{Name: name, Value: 8, Tick: 1}
		wantWorld(t, "a part that there is", purely(t, name, impl.SetPart, full, 1, name, 8), then, impl.WorldOk)

		lacking := impl.World{Next: 2, Tick: 1, Entities: []impl.Entity{thing(1, 0, slices.Delete(slices.Clone(names), at, at+1)...)}}
		wantWorld(t, "the last part that fits", purely(t, name, impl.SetPart, lacking, 1, name, 8), then, impl.WorldOk)
	}
	at := impl.World{Next: 2, Tick: impl.MaxTick, Entities: []impl.Entity{thing(1, impl.MaxTick-1, "a")}}
	then := impl.World{Next: 2, Tick: impl.MaxTick, Entities: []impl.Entity{thing(1, impl.MaxTick, "a")}}
	wantWorld(t, "MaxTick", purely(t, "SetPart", impl.SetPart, at, 1, "a", 0), then, impl.WorldOk)
}

func TestDropPart(t *testing.T) {
	for at, e := range smallWorld().Entities {
		for place, p := range e.Parts {
			then := smallWorld()
			then.Entities[at].Parts = slices.Delete(then.Entities[at].Parts, place, place+1)
			wantWorld(t, "DropPart", purely(t, "DropPart", impl.DropPart, smallWorld(), e.Id, p.Name), then, impl.WorldOk)
		}
		for _, name := range []string{"A", "aa", "abc", "ba", "z", longName} {
			wantWorld(t, "no such part", purely(t, name, impl.DropPart, smallWorld(), e.Id, name), smallWorld(), impl.WorldNone)
		}
	}
	w := impl.World{Next: 2, Entities: []impl.Entity{thing(1, 0, manyNames(impl.MaxParts)...)}}
	wantWorld(t, "a part that none has", purely(t, "DropPart", impl.DropPart, w, 1, "z"), w, impl.WorldNone)
}

func TestNextTick(t *testing.T) {
	for what, w := range goodWorlds() {
		then, code := w, impl.WorldOk
		if w.Tick == 1000000 {
			code = impl.WorldFull
		} else {
			then.Tick = w.Tick + 1
		}
		wantWorld(t, what, purely(t, what, impl.NextTick, w), then, code)
	}
	w := impl.World{Next: 1, Tick: impl.MaxTick - 1}
	wantWorld(t, "the last tick", purely(t, "NextTick", impl.NextTick, w), impl.World{Next: 1, Tick: impl.MaxTick}, impl.WorldOk)
	for what, w := range badWorlds() {
		wantWorld(t, what, purely(t, what, impl.NextTick, w), impl.World{}, impl.WorldBad)
	}
}

// Where two faults meet the first one in the document's order counts.
func TestTheOrderOfTheCodes(t *testing.T) {
	names := append(badNames(), "a", longName)
	for what, w := range badWorlds() {
		for _, name := range names {
			for _, id := range []int{-1, 1, 4, math.MaxInt} {
				wantWorld(t, what, purely(t, what, impl.SetPart, w, id, name, 1), impl.World{}, impl.WorldBad)
				wantWorld(t, what, purely(t, what, impl.DropPart, w, id, name), impl.World{}, impl.WorldBad)
			}
		}
	}
	for what, w := range goodWorlds() {
		for _, name := range badNames() {
			for _, id := range manyIds() {
				wantWorld(t, what, purely(t, what, impl.SetPart, w, id, name, 1), w, impl.WorldName)
				wantWorld(t, what, purely(t, what, impl.DropPart, w, id, name), w, impl.WorldName)
			}
		}
	}
}

func TestQueryWorldTold(t *testing.T) {
	row := func(names ...string) []string { return names }
	for _, c := range []struct {
		what string
		q    impl.Query
		want []int
	}{
		{"all", impl.Query{}, []int{1, 2, 4, 5, 6, 8}},
		{"with one", impl.Query{With: row("a")}, []int{1, 4, 5, 8}},
		{"a beginning is another name", impl.Query{With: row("ab")}, []int{1, 6}},
		{"with two", impl.Query{With: row("a", "b")}, []int{1, 5, 8}},
		{"with three", impl.Query{With: row("a", "ab", "b")}, []int{1}},
		{"with one that none has", impl.Query{With: row("a", "c")}, nil},
		{"without one", impl.Query{Without: row("a")}, []int{2, 6}},
		{"without two", impl.Query{Without: row("a", "ab")}, []int{2}},
		{"without what none has", impl.Query{Without: row("aa", "c")}, []int{1, 2, 4, 5, 6, 8}},
		{"with and without", impl.Query{With: row("a"), Without: row("ab")}, []int{4, 5, 8}},
		{"a name in both", impl.Query{With: row("a"), Without: row("a")}, nil},
		{"one name of two in both", impl.Query{With: row("a", "b"), Without: row("b")}, nil},
		{"since 0", impl.Query{With: row("a", "b"), Since: 0}, []int{1, 5, 8}},
		{"since 1", impl.Query{With: row("a", "b"), Since: 1}, []int{1, 5}},
		{"since 4, by the other part", impl.Query{With: row("a", "b"), Since: 4}, []int{1, 5}},
		{"since 4, one part alone", impl.Query{With: row("a"), Since: 4}, []int{1}},
		{"a part that is not asked for", impl.Query{With: row("ab"), Since: 1}, []int{6}},
		{"since the world's tick", impl.Query{With: row("ab"), Since: 5}, []int{6}},
		{"since one tick more", impl.Query{With: row("a"), Since: 6}, nil},
		{"since MaxTick", impl.Query{With: row("a"), Since: impl.MaxTick}, nil},
		{"since 1 of no part", impl.Query{Since: 1}, nil},
		{"since 1, without alone", impl.Query{Without: row("b"), Since: 1}, nil},
		{"names at the limit", impl.Query{With: manyNames(impl.MaxParts)}, nil},
		{"names at the limit, without", impl.Query{Without: manyNames(impl.MaxParts)}, []int{1, 2, 4, 5, 6, 8}},
	} {
		got := purely(t, c.what, impl.QueryWorld, smallWorld(), c.q)
		if !alike(got[0], c.want) || got[1] != true {
			t.Errorf("%s: %v, wanted %v", c.what, got, c.want)
		}
	}
	full := impl.World{Next: 3, Entities: []impl.Entity{thing(1, 0, manyNames(impl.MaxParts)...), thing(2, 0, manyNames(impl.MaxParts-1)...)}}
	got := purely(t, "all names", impl.QueryWorld, full, impl.Query{With: manyNames(impl.MaxParts)})
	if !alike(got[0], []int{1}) || got[1] != true {
		t.Error("all names", got)
	}
	last := impl.World{Next: 2, Tick: impl.MaxTick, Entities: []impl.Entity{thing(1, impl.MaxTick, "a")}}
	got = purely(t, "MaxTick", impl.QueryWorld, last, impl.Query{With: row("a"), Since: impl.MaxTick})
	if !alike(got[0], []int{1}) || got[1] != true {
		t.Error("since MaxTick", got)
	}
}

func TestQueriesThatAreNotGood(t *testing.T) {
	lists := [][]string{
		manyNames(impl.MaxParts + 1), {"a", "a"}, {"b", "a"}, {"ab", "a"}, {"a", "B"}, {"a", "c", "b"},
	}
	for _, name := range badNames() {
		lists = append(lists, []string{name}, []string{"A", name})
	}
	queries := []impl.Query{{Since: -1}, {Since: impl.MaxTick + 1}, {Since: math.MinInt}, {Since: math.MaxInt, With: []string{"a"}}}
	for _, l := range lists {
		queries = append(queries, impl.Query{With: l}, impl.Query{Without: l}, impl.Query{With: l, Without: l, Since: 1})
	}
	for _, q := range queries {
		for what, w := range goodWorlds() {
			got := purely(t, what, impl.QueryWorld, w, q)
			if !alike(got[0], []int{}) || got[1] != false {
				t.Errorf("%s: %v answers %v", what, q, got)
			}
		}
	}
	for what, w := range badWorlds() {
		for _, q := range []impl.Query{{}, {With: []string{"a"}}, {Without: []string{"a"}, Since: 1}, {Since: -1}} {
			got := purely(t, what, impl.QueryWorld, w, q)
			if !alike(got[0], []int{}) || got[1] != false {
				t.Errorf("%s: %v answers %v", what, q, got)
			}
		}
	}
}

// ticksOf gives the ticks of an entity's parts by their names.
func ticksOf(e impl.Entity) map[string]int {
	out := map[string]int{}
	for _, p := range e.Parts {
		out[p.Name] = p.Tick
	}
	return out
}

// slowQuery asks each entity what the document says.
func slowQuery(w impl.World, q impl.Query) []int {
	var out []int
	for _, e := range w.Entities {
		ticks := ticksOf(e)
		has, lacks, newest := 0, 0, -1
		for _, name := range q.With {
			if tick, ok := ticks[name]; ok {
				has++
				newest = max(newest, tick)
			}
		}
		for _, name := range q.Without {
			if _, ok := ticks[name]; !ok {
				lacks++
			}
		}
		if has == len(q.With) && lacks == len(q.Without) && (q.Since < 1 || newest >= q.Since) {
			out = append(out, e.Id)
		}
	}
	return out
}

// pick gives the names whose bits are set.
func pick(names []string, bits int) []string {
	var out []string
	for i, name := range names {
		if bits>>i&1 != 0 {
			out = append(out, name)
		}
	}
	return out
}

// coinWorld makes a good world out of coins, with few names, so that kinds and queries meet.
func coinWorld(seed int, names []string) impl.World {
	row := coins(seed, 1000)
	next := func() int {
		c := row[0]
		row = row[1:]
		return c
	}
	w := impl.World{Next: 1, Tick: next() % 4}
	for range next() % (impl.MaxEntities + 1) {
		w.Next += next() % 3
		e := impl.Entity{Id: w.Next}
		w.Next++
		for _, name := range pick(names, next()>>3) {
			e.Parts = append(e.Parts, impl.Part{Name: name, Value: next() - 16000, Tick: next() >> 2 % (w.Tick + 1)})
		}
		w.Entities = append(w.Entities, e)
	}
	return w
}

var fewNames = []string{"B", "a", "ab", "b_1"}

// Each query of a few names, over many worlds: promise 3.
func TestQueriesSeeJustTheRowsThatMatch(t *testing.T) {
	for seed := range 12 {
		w := coinWorld(seed+1, fewNames)
		for with := range 16 {
			for without := range 16 {
				for since := range w.Tick + 2 {
					q := impl.Query{With: pick(fewNames, with), Without: pick(fewNames, without), Since: since}
					got, ok := impl.QueryWorld(w, q)
					if want := slowQuery(w, q); !ok || !alike(got, want) {
						t.Fatalf("%v of %v: %v, wanted %v", q, w, got, want)
					}
				}
			}
		}
	}
}

func TestKindsOfTold(t *testing.T) {
	for _, c := range []struct {
		what string
		w    impl.World
		want []impl.Kind
	}{
		{"new", impl.NewWorld(), nil},
		{"small", smallWorld(), []impl.Kind{
			{Ids: []int{2}},
			{Names: []string{"a"}, Ids: []int{4}},
			{Names: []string{"a", "ab", "b"}, Ids: []int{1}},
			{Names: []string{"a", "b"}, Ids: []int{5, 8}},
			{Names: []string{"ab"}, Ids: []int{6}},
		}},
		{"without names", manyThings(3), []impl.Kind{{Ids: []int{1, 2, 3}}}},
		{"values and ticks are none of it", impl.World{Next: 4, Tick: 2, Entities: []impl.Entity{
			{Id: 2, Parts: []impl.Part{part("a", 1, 2)}}, {Id: 3, Parts: []impl.Part{part("a", 5, 0)}},
		}}, []impl.Kind{{Names: []string{"a"}, Ids: []int{2, 3}}}},
		{"names that run together", impl.World{Next: 5, Entities: []impl.Entity{
			thing(1, 0, "ab", "c"), thing(2, 0, "a", "bc"), thing(3, 0, "abc"), thing(4, 0, "a", "b", "c"),
		}}, []impl.Kind{
			{Names: []string{"a", "b", "c"}, Ids: []int{4}},
			{Names: []string{"a", "bc"}, Ids: []int{2}},
			{Names: []string{"ab", "c"}, Ids: []int{1}},
			{Names: []string{"abc"}, Ids: []int{3}},
		}},
		{"name by name, not as one text", impl.World{Next: 4, Entities: []impl.Entity{
			thing(1, 0, "a_"), thing(2, 0, "a", "z"), thing(3, 0, "a0"),
		}}, []impl.Kind{
			{Names: []string{"a", "z"}, Ids: []int{2}},
			{Names: []string{"a0"}, Ids: []int{3}},
			{Names: []string{"a_"}, Ids: []int{1}},
		}},
		{"great letters first", impl.World{Next: 3, Entities: []impl.Entity{thing(1, 0, "a"), thing(2, 0, "B")}}, []impl.Kind{
			{Names: []string{"B"}, Ids: []int{2}},
			{Names: []string{"a"}, Ids: []int{1}},
		}},
		{"parts at the limit", impl.World{Next: 4, Entities: []impl.Entity{
			thing(1, 0, manyNames(impl.MaxParts)...), thing(2, 0, manyNames(impl.MaxParts-1)...), thing(3, 0, manyNames(impl.MaxParts)...),
		}}, []impl.Kind{
			{Names: manyNames(impl.MaxParts - 1), Ids: []int{2}},
			{Names: manyNames(impl.MaxParts), Ids: []int{1, 3}},
		}},
	} {
		got := purely(t, c.what, impl.KindsOf, c.w)
		if !alike(got[0], c.want) || got[1] != true {
			t.Errorf("%s: %v, wanted %v", c.what, got, c.want)
		}
	}
	for what, w := range badWorlds() {
		got := purely(t, what, impl.KindsOf, w)
		if !alike(got[0], []impl.Kind{}) || got[1] != false {
			t.Errorf("%s: %v", what, got)
		}
	}
}

// slowKinds puts each entity to the kind of its names, at the kind's place.
func slowKinds(w impl.World) []impl.Kind {
	var out []impl.Kind
	for _, e := range w.Entities {
		var names []string
		for _, p := range e.Parts {
			names = append(names, p.Name)
		}
		at := 0
		for at < len(out) && lessNames(out[at].Names, names) {
			at++
		}
		if at == len(out) || lessNames(names, out[at].Names) {
			out = slices.Insert(out, at, impl.Kind{Names: names})
		}
		out[at].Ids = append(out[at].Ids, e.Id)
	}
	return out
}

func lessNames(a []string, b []string) bool {
	for i := range b {
		if i == len(a) {
			return true
		}
		if a[i] != b[i] {
			return a[i] < b[i]
		}
	}
	return false
}

func TestKindsOfExactly(t *testing.T) {
	names := []string{"A", "a", "a1", "ab", "abc", "b", "b_", "c"}
	for seed := range 60 {
		w := coinWorld(seed+100, names[:1+seed%len(names)])
		got := purely(t, "KindsOf", impl.KindsOf, w)
		if want := slowKinds(w); !alike(got[0], want) || got[1] != true {
			t.Fatalf("%v: %v, wanted %v", w, got, want)
		}
		for range 3 {
			if again, _ := impl.KindsOf(w); !alike(again, got[0]) {
				t.Fatal("told otherwise again")
			}
		}
	}
}

// toldWorld is a world without any order: what is done to it is written down by the document's words.
type toldWorld struct {
	next   int
	tick   int
	things map[int]map[string][2]int
}

func (m toldWorld) laid() impl.World {
	w := impl.World{Next: m.next, Tick: m.tick}
	for _, id := range slices.Sorted(maps.Keys(m.things)) {
		e := impl.Entity{Id: id}
		for name, p := range m.things[id] {
			e.Parts = append(e.Parts, impl.Part{Name: name, Value: p[0], Tick: p[1]})
		}
		slices.SortFunc(e.Parts, func(a, b impl.Part) int { return strings.Compare(a.Name, b.Name) })
		w.Entities = append(w.Entities, e)
	}
	return w
}

func (m *toldWorld) spawn() (int, int) {
	if len(m.things) == 60 || m.next == 1000000 {
		return 0, 3
	}
	m.things[m.next] = map[string][2]int{}
	m.next++
	return m.next - 1, 0
}

func (m *toldWorld) set(id int, name string, value int) int {
	parts, there := m.things[id]
	_, has := parts[name]
	switch {
	case !slowGoodName(name):
		return 4
	case !there:
		return 2
	case !has && len(parts) == 12:
		return 3
	}
	parts[name] = [2]int{value, m.tick}
	return 0
}

func (m *toldWorld) drop(id int, name string) int {
	parts, there := m.things[id]
	_, has := parts[name]
	switch {
	case !slowGoodName(name):
		return 4
	case !there || !has:
		return 2
	}
	delete(parts, name)
	return 0
}

// Long rows of doings, good and refused ones, each held against the told world: promise 3.
func TestWhatIsDoneIsWhatIsTold(t *testing.T) {
	names := append(manyNames(14), "", "1", "a b", longName, longName+"z")
	for seed := range 8 {
		row := coins(seed+1, 4*600)
		m := toldWorld{next: 1, things: map[int]map[string][2]int{}}
		if seed%2 == 1 {
			m.next, m.tick = lastNext-30, impl.MaxTick-20
		}
		w := m.laid()
		for ; len(row) > 0; row = row[4:] {
			id := m.next - 1 - row[1]>>4%(8<<(seed%4))
			name := names[row[2]>>5%len(names)]
			var got []any
			want := 0
			switch kind := row[0] >> 6 % 24; {
			case kind < 5:
				got = purely(t, "Spawn", impl.Spawn, w)
				var fresh int
				fresh, want = m.spawn()
				if got[1] != fresh {
					t.Fatalf("Spawn: Id %v, wanted %d", got[1], fresh)
				}
				got = []any{got[0], got[2]}
			case kind < 6:
				got = purely(t, "Despawn", impl.Despawn, w, id)
				if _, there := m.things[id]; !there {
					want = 2
				}
				delete(m.things, id)
			case kind < 20:
				got = purely(t, "SetPart", impl.SetPart, w, id, name, row[3]%5)
				want = m.set(id, name, row[3]%5)
			case kind < 22:
				got = purely(t, "DropPart", impl.DropPart, w, id, name)
				want = m.drop(id, name)
			default:
				got = purely(t, "NextTick", impl.NextTick, w)
				if m.tick == 1000000 {
					want = 3
				} else {
					m.tick++
				}
			}
			if !alike(got[0], m.laid()) || got[1] != want {
				t.Fatalf("%v, wanted %v with %d", got, m.laid(), want)
			}
			w = got[0].(impl.World)
			if !impl.GoodWorld(w) {
				t.Fatal("no good world any more", w)
			}
		}
	}
}

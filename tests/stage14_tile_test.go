package tests

import (
	"fmt"
	"slices"
	"strings"
	"testing"

	"loop.example/g00064/impl"
)

const mostSorts = 6
const mostField = 6
const mostTried = 5000
const manyPicks = 16

// sortLists reads lists of sorts: their digits, with a stroke between two lists.
func sortLists(text string) [][]int {
	var out [][]int
	for _, digits := range strings.Split(text, "/") {
		list := []int{}
		for _, digit := range digits {
			list = append(list, int(digit-'0'))
		}
		out = append(out, list)
	}
	return out
}

func rulesOf(right string, down string) impl.Rules {
	lists := sortLists(right)
	return impl.Rules{Sorts: len(lists), Right: lists, Down: sortLists(down)}
}

// sameLists gives a list for each sort, all alike and each in memory of its own.
func sameLists(sorts int, list []int) [][]int {
	var out [][]int
	for range sorts {
		out = append(out, slices.Clone(list))
	}
	return out
}

// freeRules lets any sort stand beside any.
func freeRules(sorts int) impl.Rules {
	return impl.Rules{Sorts: sorts, Right: sameLists(sorts, counted(sorts)), Down: sameLists(sorts, counted(sorts))}
}

// barredRules lets no sort stand beside any.
func barredRules(sorts int) impl.Rules {
	return impl.Rules{Sorts: sorts, Right: sameLists(sorts, nil), Down: sameLists(sorts, nil)}
}

// tiled reads a field: rows with a stroke between two, digits for sorts, a dot for what is open.
func tiled(picture string) impl.Field {
	rows := strings.Split(picture, "/")
	f := impl.Field{Wide: len(rows[0]), High: len(rows)}
	for _, r := range strings.Join(rows, "") {
		if r == '.' {
			f.Tiles = append(f.Tiles, -1)
		} else {
			f.Tiles = append(f.Tiles, int(r-'0'))
		}
	}
	return f
}

// tiledWith gives a field that has one tile everywhere.
func tiledWith(wide int, high int, tile int) impl.Field {
	return impl.Field{Wide: wide, High: high, Tiles: slices.Repeat([]int{tile}, wide*high)}
}

// withTile gives the field with another tile at one place.
func withTile(f impl.Field, at int, tile int) impl.Field {
	f.Tiles = slices.Clone(f.Tiles)
	f.Tiles[at] = tile
	return f
}

func openOnes(f impl.Field) []int {
	var out []int
	for at, tile := range f.Tiles {
		if tile == -1 {
			out = append(out, at)
		}
	}
	return out
}

// slot is where a place lies: its column and its row.
type slot [2]int

// slotsOf gives the slots of all places in the order of their numbers.
func slotsOf(f impl.Field) []slot {
	var out []slot
	for y := range f.High {
		for x := range f.Wide {
			out = append(out, slot{x, y})
		}
	}
	return out
}

func slowGoodRules(r impl.Rules) bool {
	if !slices.Contains([]int{1, 2, 3, 4, 5, 6}, r.Sorts) || len(r.Right) != r.Sorts || len(r.Down) != r.Sorts {
		return false
	}
	strange := func(sort int) bool { return !slices.Contains(counted(r.Sorts), sort) }
	for _, list := range slices.Concat(r.Right, r.Down) {
		sorted := slices.Compact(slices.Sorted(slices.Values(list)))
		if !slices.Equal(list, sorted) || slices.ContainsFunc(list, strange) {
			return false
		}
	}
	return true
}

// slowGoodTiles tells whether a field is good where there are so many sorts.
func slowGoodTiles(f impl.Field, sorts int) bool {
	for _, edge := range []int{f.Wide, f.High} {
		if !slices.Contains([]int{1, 2, 3, 4, 5, 6}, edge) {
			return false
		}
	}
	strange := func(tile int) bool { return !slices.Contains(counted(sorts), tile) && tile != -1 }
	return len(f.Tiles) == len(slotsOf(f)) && !slices.ContainsFunc(f.Tiles, strange)
}

func slowGoodField(r impl.Rules, f impl.Field) bool {
	return slowGoodRules(r) && slowGoodTiles(f, r.Sorts)
}

// holdsAll asks each two tiles one behind the other, of a good field.
func holdsAll(r impl.Rules, f impl.Field) bool {
	for number, b := range f.Tiles {
		x, y := number%f.Wide, number/f.Wide
		if x > 0 && b >= 0 {
			if a := f.Tiles[y*f.Wide+x-1]; a >= 0 && !slices.Contains(r.Right[a], b) {
				return false
			}
		}
		if y > 0 && b >= 0 {
			if a := f.Tiles[(y-1)*f.Wide+x]; a >= 0 && !slices.Contains(r.Down[a], b) {
				return false
			}
		}
	}
	return true
}

func slowHolds(r impl.Rules, f impl.Field) bool { return slowGoodField(r, f) && holdsAll(r, f) }

// slowMayStand opens all places but those beside one, lays each sort there and asks whether that holds.
func slowMayStand(r impl.Rules, f impl.Field, at int) ([]int, bool) {
	if !slowGoodField(r, f) || !slices.Contains(counted(len(f.Tiles)), at) {
		return nil, false
	}
	slots := slotsOf(f)
	alone := tiledWith(f.Wide, f.High, -1)
	for i, s := range slots {
		dx, dy := s[0]-slots[at][0], s[1]-slots[at][1]
		if dx*dx+dy*dy == 1 {
			alone.Tiles[i] = f.Tiles[i]
		}
	}
	var out []int
	for sort := range r.Sorts {
		if holdsAll(r, withTile(alone, at, sort)) {
			out = append(out, sort)
		}
	}
	return out, true
}

// slowFill goes down into each sort that may stand, open place by open place, and gives up ahead of one more than most.
func slowFill(r impl.Rules, f impl.Field, most int) (impl.Filled, bool) {
	if !slowGoodField(r, f) || !holdsAll(r, f) {
		return impl.Filled{}, slowGoodField(r, f)
	}
	tried := 0
	var down func(f impl.Field) (impl.Field, bool, bool)
	down = func(f impl.Field) (impl.Field, bool, bool) {
		at := slices.Index(f.Tiles, -1)
		if at < 0 {
			return f, true, true
		}
		for sort := range r.Sorts {
			then := withTile(f, at, sort)
			if !holdsAll(r, then) {
				continue
			}
			if tried == most {
				return impl.Field{}, false, true
			}
			tried++
			if got, found, over := down(then); over {
				return got, found, true
			}
		}
		return impl.Field{}, false, false
	}
	got, found, _ := down(f)
	return impl.Filled{Found: found, Field: got, Tried: tried}, true
}

// fillByBeginnings gives the same without going back: it writes down all beginnings of fillings, takes the
// first one that is whole, and counts all that are not behind it.
func fillByBeginnings(r impl.Rules, f impl.Field) impl.Filled {
	if !holdsAll(r, f) {
		return impl.Filled{}
	}
	places := openOnes(f)
	levels := [][][]int{{{}}}
	for range places {
		var longer [][]int
		for _, row := range levels[len(levels)-1] {
			for sort := range r.Sorts {
				longer = append(longer, append(slices.Clone(row), sort))
			}
		}
		levels = append(levels, longer)
	}
	laid := func(row []int) impl.Field {
		g := impl.Field{Wide: f.Wide, High: f.High, Tiles: slices.Clone(f.Tiles)}
		for i, sort := range row {
			g.Tiles[places[i]] = sort
		}
		return g
	}
	holds := func(row []int) bool { return holdsAll(r, laid(row)) }
	out := impl.Filled{}
	last := slices.Repeat([]int{r.Sorts}, len(places))
	if i := slices.IndexFunc(levels[len(places)], holds); i >= 0 {
		last = levels[len(places)][i]
		out = impl.Filled{Found: true, Field: laid(last)}
	}
	for many, level := range levels[1:] {
		for _, row := range level {
			if slices.Compare(row, last[:many+1]) <= 0 && holds(row) {
				out.Tried++
			}
		}
	}
	return out
}

// rowsThatFit gives all rows of sorts that hold by themselves and have what stands in that row of a field.
func rowsThatFit(r impl.Rules, f impl.Field, y int) [][]int {
	rows := [][]int{{}}
	for _, tile := range f.Tiles[y*f.Wide : (y+1)*f.Wide] {
		var longer [][]int
		for _, row := range rows {
			for sort := range r.Sorts {
				fits := tile == -1 || tile == sort
				if fits && (len(row) == 0 || slices.Contains(r.Right[row[len(row)-1]], sort)) {
					longer = append(longer, append(slices.Clone(row), sort))
				}
			}
		}
		rows = longer
	}
	return rows
}

// mayBeFilled tells whether there is any filling: it keeps, row by row, all rows that some rows above lead to.
func mayBeFilled(r impl.Rules, f impl.Field) bool {
	above := rowsThatFit(r, f, 0)
	for y := 1; y < f.High; y++ {
		var rows [][]int
		for _, row := range rowsThatFit(r, f, y) {
			below := func(upper []int) bool {
				for x := range row {
					if !slices.Contains(r.Down[upper[x]], row[x]) {
						return false
					}
				}
				return true
			}
			if slices.ContainsFunc(above, below) {
				rows = append(rows, row)
			}
		}
		above = rows
	}
	return len(above) > 0
}

func slowMask(f impl.Field, at int, sort int) int {
	if !slowGoodTiles(f, mostSorts) || !slices.Contains(counted(len(f.Tiles)), at) || !slices.Contains(counted(mostSorts), sort) {
		return -1
	}
	slots := slotsOf(f)
	s := slots[at]
	mask := 0
	for beside, bit := range map[slot]int{{s[0], s[1] - 1}: 1, {s[0] + 1, s[1]}: 2, {s[0], s[1] + 1}: 4, {s[0] - 1, s[1]}: 8} {
		if i := slices.Index(slots, beside); i < 0 || f.Tiles[i] == sort {
			mask += bit
		}
	}
	return mask
}

func slowAuto(f impl.Field, sort int, picks []int) (impl.Field, bool) {
	strange := func(tile int) bool { return !slices.Contains([]int{-1, 0, 1, 2, 3, 4, 5}, tile) }
	if slowMask(f, 0, sort) == -1 || len(picks) != manyPicks || slices.ContainsFunc(picks, strange) {
		return impl.Field{}, false
	}
	out := f
	for at, tile := range f.Tiles {
		if tile == sort {
			out = withTile(out, at, picks[slowMask(f, at, sort)])
		}
	}
	return out, true
}

func wantGoodRules(t *testing.T, what string, r impl.Rules, want bool) {
	t.Helper()
	if got := purely(t, "GoodRules", impl.GoodRules, r); got[0] != want || slowGoodRules(r) != want {
		t.Errorf("%s: GoodRules %v = %v, want %v", what, r, got, want)
	}
}

func wantGoodField(t *testing.T, what string, r impl.Rules, f impl.Field, want bool) {
	t.Helper()
	if got := purely(t, "GoodField", impl.GoodField, r, f); got[0] != want || slowGoodField(r, f) != want {
		t.Errorf("%s: GoodField %v, %v = %v, want %v", what, r, f, got, want)
	}
}

func wantHolds(t *testing.T, what string, r impl.Rules, f impl.Field, want bool) {
	t.Helper()
	if got := purely(t, "FieldHolds", impl.FieldHolds, r, f); got[0] != want {
		t.Errorf("%s: FieldHolds %v, %v = %v, want %v", what, r, f, got, want)
	}
}

func wantMayStand(t *testing.T, what string, r impl.Rules, f impl.Field, at int, want []int, good bool) {
	t.Helper()
	if got := purely(t, "MayStand", impl.MayStand, r, f, at); !alike(got[0], want) || got[1] != good {
		t.Errorf("%s: MayStand %v, %v, %d = %v, want %v, %v", what, r, f, at, got, want, good)
	}
}

func wantFill(t *testing.T, what string, r impl.Rules, f impl.Field, want impl.Filled, good bool) {
	t.Helper()
	if got := purely(t, "FillField", impl.FillField, r, f); !alike(got[0], want) || got[1] != good {
		t.Errorf("%s: FillField %v, %v = %v, want %v, %v", what, r, f, got, want, good)
	}
}

func wantMask(t *testing.T, what string, f impl.Field, at int, sort int, want int) {
	t.Helper()
	if got := purely(t, "TileMask", impl.TileMask, f, at, sort); got[0] != want {
		t.Errorf("%s: TileMask %v, %d, %d = %v, want %d", what, f, at, sort, got, want)
	}
}

func wantAuto(t *testing.T, what string, f impl.Field, sort int, picks []int, want impl.Field, good bool) {
	t.Helper()
	if got := purely(t, "AutoTile", impl.AutoTile, f, sort, picks); !alike(got[0], want) || got[1] != good {
		t.Errorf("%s: AutoTile %v, %d, %v = %v, want %v, %v", what, f, sort, picks, got, want, good)
	}
}

// goodRuleBooks holds rules at each limit that the document names.
func goodRuleBooks() map[string]impl.Rules {
	out := map[string]impl.Rules{
		"unlike lists":       rulesOf("01/12/02", "02/01/12"),
		"an empty one":       rulesOf("01//012", "/0/1"),
		"to the right alone": {Sorts: 2, Right: sameLists(2, counted(2)), Down: sameLists(2, nil)},
		"down alone":         {Sorts: 2, Right: sameLists(2, nil), Down: sameLists(2, counted(2))},
		"as many as may be":  rulesOf("012345/5/0/24/135/", "/012345/5/0/24/135"),
	}
	for sorts := 1; sorts <= mostSorts; sorts++ {
		out[fmt.Sprint("whole lists of ", sorts)] = freeRules(sorts)
		out[fmt.Sprint("empty lists of ", sorts)] = barredRules(sorts)
		last := []int{sorts - 1}
		out[fmt.Sprint("the last of ", sorts)] = impl.Rules{Sorts: sorts, Right: sameLists(sorts, last), Down: sameLists(sorts, last)}
		out[fmt.Sprint("the first of ", sorts)] = impl.Rules{Sorts: sorts, Right: sameLists(sorts, []int{0}), Down: sameLists(sorts, []int{0})}
	}
	return out
}

// badSortLists holds lists that no sort may have where there are so many.
func badSortLists(sorts int) map[string][]int {
	out := map[string][]int{
		"that does not rise":        {1, 0},
		"that does not rise late":   {0, 2, 1},
		"that does not rise at all": {2, 1, 0},
		"with a sort twice":         {0, 0},
		"with the last one twice":   {0, sorts - 1, sorts - 1},
		"that comes back":           {0, 1, 0},
		"of a sort below 0":         {-1},
		"from below 0 on":           {-1, 0, 1},
		"with Sorts":                {sorts},
		"up to Sorts":               append(counted(sorts), sorts),
		"with Sorts in the midst":   {0, sorts, 1},
		"with one too many":         append(counted(sorts), sorts-1),
		"of many":                   slices.Repeat([]int{0}, 1000),
	}
	for _, far := range append(farNumbers(), 1<<32, 1<<32+1, mostSorts, 256) {
		out[fmt.Sprint("with ", far)] = []int{far}
		out[fmt.Sprint("with ", far, " behind 0")] = []int{0, far}
	}
	return out
}

// badRuleBooks holds rules that are not good, in each way that the document names.
func badRuleBooks() map[string]impl.Rules {
	out := map[string]impl.Rules{
		"nothing":                 {},
		"lists alone":             {Right: sameLists(1, nil), Down: sameLists(1, nil)},
		"one too many sorts":      freeRules(mostSorts + 1),
		"one too many, barred":    barredRules(mostSorts + 1),
		"far too many":            barredRules(1000),
		"lists for another count": {Sorts: 2, Right: sameLists(3, nil), Down: sameLists(3, nil)},
	}
	for _, sorts := range append(farNumbers(), -1, 0, mostSorts+1, -mostSorts, 1<<32+2) {
		for _, lists := range []int{0, 1, 2, 6} {
			out[fmt.Sprint("Sorts ", sorts, " of ", lists)] = impl.Rules{Sorts: sorts, Right: sameLists(lists, nil), Down: sameLists(lists, nil)}
		}
	}
	for _, sorts := range []int{1, 3, mostSorts} {
		for _, lists := range []int{0, sorts - 1, sorts + 1, 2 * sorts} {
			whole, other := sameLists(sorts, counted(sorts)), sameLists(lists, counted(sorts))
			out[fmt.Sprint(lists, " lists in Right for ", sorts)] = impl.Rules{Sorts: sorts, Right: other, Down: whole}
			out[fmt.Sprint(lists, " lists in Down for ", sorts)] = impl.Rules{Sorts: sorts, Right: whole, Down: other}
		}
		for what, list := range badSortLists(sorts) {
			for at := range sorts {
				r := freeRules(sorts)
				r.Right[at] = list
				out[fmt.Sprint("list ", at, " in Right ", what, " for ", sorts)] = r
				r = freeRules(sorts)
				r.Down[at] = list
				out[fmt.Sprint("list ", at, " in Down ", what, " for ", sorts)] = r
			}
		}
	}
	return out
}

// goodFields holds fields of so many sorts at each limit that the document names.
func goodFields(sorts int) map[string]impl.Field {
	out := map[string]impl.Field{
		"one open place": tiled("."),
		"one tile":       tiled("0"),
		"the last sort":  tiledWith(1, 1, sorts-1),
		"the most, open": tiledWith(mostField, mostField, -1),
		"the most":       tiledWith(mostField, mostField, sorts-1),
	}
	for edge := 1; edge <= mostField; edge++ {
		out[fmt.Sprint("Wide ", edge)] = tiledWith(edge, 2, 0)
		out[fmt.Sprint("High ", edge)] = tiledWith(3, edge, -1)
	}
	for tile := -1; tile < sorts; tile++ {
		for _, at := range []int{0, 4, 7} {
			out[fmt.Sprint("tile ", tile, " at ", at)] = withTile(tiledWith(2, 4, 0), at, tile)
		}
	}
	return out
}

// badFields holds fields that are not good where there are so many sorts, in each way that the document names.
func badFields(sorts int) map[string]impl.Field {
	out := map[string]impl.Field{
		"nothing":              {},
		"tiles alone":          {Tiles: []int{0}},
		"no tile":              {Wide: 1, High: 1},
		"two edges below 0":    {Wide: -1, High: -1, Tiles: []int{0}},
		"two more":             {Wide: -2, High: -3, Tiles: make([]int, 6)},
		"a product that wraps": {Wide: 1 << 32, High: 1 << 32},
		"another":              {Wide: 1 << 62, High: 4, Tiles: nil},
		"that wraps to 2":      {Wide: 1<<63 - 1, High: -2, Tiles: make([]int, 2)},
		"long and thin":        tiledWith(mostField+1, 1, 0),
		"thin and long":        tiledWith(1, mostField+1, 0),
		"longer and thinner":   tiledWith(36, 1, 0),
		"far too many tiles":   {Wide: 6, High: 6, Tiles: make([]int, 5000)},
	}
	for _, edge := range append(farNumbers(), -1, 0, mostField+1, -mostField, 12, 1<<32+2) {
		many := 0
		if 0 < edge && edge < 20 {
			many = 2 * edge
		}
		for i, many := range []int{many, 4} {
			out[fmt.Sprint("Wide ", edge, ", ", i)] = impl.Field{Wide: edge, High: 2, Tiles: make([]int, many)}
			out[fmt.Sprint("High ", edge, ", ", i)] = impl.Field{Wide: 2, High: edge, Tiles: make([]int, many)}
		}
	}
	for _, many := range []int{0, 1, 5, 7, 12} {
		out[fmt.Sprint("tiles ", many)] = impl.Field{Wide: 2, High: 3, Tiles: make([]int, many)}
		out[fmt.Sprint("open tiles ", many)] = impl.Field{Wide: 3, High: 2, Tiles: slices.Repeat([]int{-1}, many)}
	}
	for _, tile := range append(farNumbers(), -2, sorts, -mostSorts, mostSorts, 1<<32, 1<<32-1, 256, 255) {
		for _, at := range []int{0, 3, 5} {
			out[fmt.Sprint("tile ", tile, " at ", at)] = withTile(tiledWith(2, 3, 0), at, tile)
		}
	}
	return out
}

// notPlaces holds numbers that are no places of a field.
func notPlaces(f impl.Field) []int {
	return append(farNumbers(), -1, -2, len(f.Tiles), len(f.Tiles)+1, -len(f.Tiles), 36, 1<<32, 1<<32+1)
}

func TestTileConstants(t *testing.T) {
	got := [3]int{impl.MaxSorts, impl.MaxField, impl.MaxTried}
	if got != [3]int{mostSorts, mostField, mostTried} {
		t.Error(got)
	}
}

func TestGoodRules(t *testing.T) {
	for what, r := range goodRuleBooks() {
		wantGoodRules(t, what, r, true)
	}
	for what, r := range badRuleBooks() {
		wantGoodRules(t, what, r, false)
	}
}

func TestGoodField(t *testing.T) {
	for sorts := 1; sorts <= mostSorts; sorts++ {
		for _, r := range []impl.Rules{freeRules(sorts), barredRules(sorts)} {
			for what, f := range goodFields(sorts) {
				wantGoodField(t, what, r, f, true)
			}
			for what, f := range badFields(sorts) {
				wantGoodField(t, what, r, f, false)
			}
		}
	}
	for what, r := range badRuleBooks() {
		wantGoodField(t, what, r, tiled("0"), false)
		wantGoodField(t, what, r, tiled(".."), false)
	}
}

// Each two sorts, side by side and one above the other, with and without open tiles between them.
func TestHoldsByTwo(t *testing.T) {
	r := rulesOf("01/12/02", "02/01/12")
	for a := range 3 {
		for b := range 3 {
			right, down := b == a || b == (a+1)%3, b == a || b == (a+2)%3
			for picture, want := range map[string]bool{
				"%d%d":                right,
				"%d/%d":               down,
				"%d.%d":               true,
				"%d/./%d":             true,
				"%d....%d":            true,
				"%d/././././%d":       true,
				"..%d/%d..":           true,
				"%d./.%d":             true,
				".%d/%d.":             true,
				"%d%d./...":           right,
				".../.%d%d":           right,
				"%d./%d./..":          down,
				"../.%d/.%d":          down,
				"..../.%d%d./....":    right,
				".../.%d./.%d./...":   down,
				"...../.%d.%d./.....": true,
			} {
				wantHolds(t, picture, r, tiled(fmt.Sprintf(picture, a, b)), want)
			}
		}
	}
}

func TestHoldsTold(t *testing.T) {
	r := rulesOf("01/12/02", "02/01/12")
	for _, c := range []struct {
		what    string
		picture string
		want    bool
	}{
		{"one open place", ".", true},
		{"one tile", "2", true},
		{"all open", ".../...", true},
		{"a row", "001122", true},
		{"a row with one that may not", "001102", false},
		{"the first two may not", "021122", false},
		{"the last two may not", "001121", false},
		{"a column", "0/0/2/2/1/1", true},
		{"a column with one that may not", "0/0/2/0/2/1", false},
		{"both ways", "01/00", true},
		{"to the right alone", "01/01", true},
		{"not to the right", "10/00", false},
		{"not down", "01/12", false},
		{"not down in the last column", "01/02", false},
		{"open ones between", "0.2/.../1.0", true},
		{"one open place in the midst", "011/0.1/221", false},
		{"and it may be", "011/0.1/201", true},
	} {
		wantHolds(t, c.what, r, tiled(c.picture), c.want)
		if slowHolds(r, tiled(c.picture)) != c.want {
			t.Error(c.what, "is not what is told")
		}
	}
	for sorts := 1; sorts <= mostSorts; sorts++ {
		wantHolds(t, "any beside any", freeRules(sorts), tiledWith(mostField, mostField, sorts-1), true)
		wantHolds(t, "none beside any", barredRules(sorts), tiledWith(2, 1, sorts-1), false)
		wantHolds(t, "none beside any, down", barredRules(sorts), tiledWith(1, 2, sorts-1), false)
		wantHolds(t, "none beside any, alone", barredRules(sorts), tiledWith(1, 1, sorts-1), true)
		wantHolds(t, "none beside any, open", barredRules(sorts), tiledWith(6, 6, -1), true)
	}
}

func TestMayStandTold(t *testing.T) {
	r := rulesOf("01/12/02", "02/01/12")
	for _, c := range []struct {
		what    string
		picture string
		at      int
		want    []int
	}{
		{"a field of one place", ".", 0, []int{0, 1, 2}},
		{"a field of one place that is taken", "2", 0, []int{0, 1, 2}},
		{"a corner with none", ".../.../...", 0, []int{0, 1, 2}},
		{"a corner with a right one", ".0./.../...", 0, []int{0, 2}},
		{"a corner with a lower one", ".../0../...", 0, []int{0, 1}},
		{"a corner with both", ".0./0../...", 0, []int{0}},
		{"a corner with two that leave none", ".0./1../...", 0, []int{2}},
		{"the second corner", ".0./..2/...", 2, []int{0}},
		{"the third corner", ".../1../.2.", 6, []int{1}},
		{"the last corner", ".../..0/.1.", 8, []int{2}},
		{"the last corner with none", "000/00./0..", 8, []int{0, 1, 2}},
		{"the last corner with a left one", ".../.../.2.", 8, []int{0, 2}},
		{"the last corner with an upper one", ".../..1/...", 8, []int{0, 1}},
		{"the upper edge", "1.2/.1./...", 1, []int{1, 2}},
		{"the left edge", "0../.0./1..", 3, []int{2}},
		{"the right edge", "..2/.1./..1", 5, []int{1, 2}},
		{"the lower edge", ".../.0./0.0", 7, []int{0}},
		{"within with none", "0.0/.../0.0", 4, []int{0, 1, 2}},
		{"within with a left one", ".../1../...", 4, []int{1, 2}},
		{"within with a right one", ".../..1/...", 4, []int{0, 1}},
		{"within with an upper one", ".1./.../...", 4, []int{0, 1}},
		{"within with a lower one", ".../.../.1.", 4, []int{1, 2}},
		{"within with four", ".0./0.0/.0.", 4, []int{0}},
		{"within with four others", ".2./1.2/.1.", 4, []int{1, 2}},
		{"within with four that leave none", ".1./0.2/.2.", 4, nil},
		{"a place that is taken itself", ".2./112/.1.", 4, []int{1, 2}},
		{"taken by what may not stand", ".2./102/.1.", 4, []int{1, 2}},
		{"taken where nothing may", ".1./002/.2.", 4, nil},
		{"not over the row's end, ahead", "..0/...", 3, []int{0, 1, 2}},
		{"not over the row's end, behind", ".../0..", 2, []int{0, 1, 2}},
		{"a field that does not hold elsewhere", "021/.../12.", 8, []int{0, 2}},
	} {
		wantMayStand(t, c.what, r, tiled(c.picture), c.at, c.want, true)
		if slow, good := slowMayStand(r, tiled(c.picture), c.at); !slices.Equal(slow, c.want) || !good {
			t.Error(c.what, slow, good)
		}
	}
}

// All tiles around a place within, at an edge and at a corner.
func TestMayStandByAllAround(t *testing.T) {
	for _, r := range []impl.Rules{rulesOf("01/12/02", "02/01/12"), rulesOf("12/0/", "2//01"), freeRules(3), barredRules(3)} {
		for number := range 4 * 4 * 4 * 4 {
			f := tiledWith(3, 3, -1)
			for i, at := range []int{1, 3, 5, 7} {
				f.Tiles[at] = number>>(2*i)%4 - 1
			}
			for at := range f.Tiles {
				want, good := slowMayStand(r, f, at)
				wantMayStand(t, "all around", r, f, at, want, good)
			}
		}
	}
}

func TestMayStandOfWrongInputs(t *testing.T) {
	r := freeRules(3)
	for _, f := range []impl.Field{tiled("."), tiled("012/..."), tiledWith(6, 6, 0)} {
		for _, at := range notPlaces(f) {
			if slices.Contains(counted(len(f.Tiles)), at) {
				continue
			}
			wantMayStand(t, "no place", r, f, at, nil, false)
		}
	}
	for what, f := range badFields(3) {
		wantMayStand(t, what, r, f, 0, nil, false)
		wantMayStand(t, what, r, f, 1, nil, false)
	}
	for what, r := range badRuleBooks() {
		wantMayStand(t, what, r, tiled("0"), 0, nil, false)
		wantMayStand(t, what, r, tiled(".."), 1, nil, false)
	}
}

type fillCase struct {
	what    string
	right   string
	down    string
	picture string
	want    string
	tried   int
}

// fillsThatAreFound holds fillings with what they come to.
func fillsThatAreFound() []fillCase {
	return []fillCase{
		{"no open place", "0/1", "0/1", "00/00", "00/00", 0},
		{"no open place but one", "0/1", "0/1", "1", "1", 0},
		{"one open place", "0/1/2", "0/1/2", "22/.2", "22/22", 1},
		{"one open place alone", "", "", ".", "0", 1},
		{"one sort, all", "0", "0", "../..", "00/00", 4},
		{"all, any beside any", "01/01", "01/01", ".../...", "000/000", 6},
		{"all, in turn", "1/0", "1/0", ".../...", "010/101", 6},
		{"all, in turn to the right alone", "1/0", "01/01", ".../...", "010/010", 6},
		{"all, in turn down alone", "01/01", "1/0", ".../...", "000/111", 6},
		{"not the least sort at first", "12/2/0", "012/012/012", "....", "0120", 4},
		{"by a tile behind", "0/1/2", "0/1/2", "..1/...", "111/111", 6},
		{"it goes back once", "0/1/2", "012/012/012", "..1", "111", 3},
		{"it goes back once, down", "012/012/012", "0/1/2", "././1", "1/1/1", 3},
		{"it goes back twice to one place", "0/1/2", "012/012/012", "..2", "222", 4},
		{"it goes back over two places", "0/1/2", "012/012/012", "...1", "1111", 5},
		{"it goes back over five places", "0/1/2", "012/012/012", ".....1", "111111", 9},
		{"it goes back over five places twice", "0/1/2", "012/012/012", ".....2", "222222", 13},
		{"over a tile that stood", "01/01", "0/1", ".0/.0/10", "10/10/10", 3},
		{"over tiles that stood, in a long row", "0/1", "01/01", "..1/000/..1", "111/000/111", 6},
		{"what is gone back from begins anew", "2/0/", "012/012/012", "...", "102", 5},
	}
}

// fillsThatAreNot holds fields that can't be filled, with how many sorts are laid until that is known.
func fillsThatAreNot() []fillCase {
	return []fillCase{
		{"no sort for the one open place", "0/1/2", "0/1/2", "0.1", "", 0},
		{"no sort for the first one", "0/1/2", "012/012/012", "0.1...", "", 0},
		{"no sort for the second one", "0/1/2", "0/1/2", "0..1", "", 1},
		{"no sort for the last one", "0/1/2", "0/1/2", "0....1", "", 3},
		{"no sort for the last one, down", "012/012/012", "0/1/2", "0/./././1", "", 2},
		{"none beside any", "//", "012/012/012", "..", "", 3},
		{"none above any", "012/012/012", "//", "./.", "", 3},
		{"none behind the last sort", "12/2/", "012/012/012", "....", "", 7},
		{"back over a row that stood", "01/01", "0/01", "../00/../11", "", 6},
		{"back over tiles that stood", "0/1/2", "012/012/012", "...0/1..2", "", 8},
		{"it does not hold", "0/1", "0/1", "01", "", 0},
		{"it does not hold, down", "0/1", "0/1", "0/1", "", 0},
		{"it does not hold, and is open", "0/1", "0/1", "01./...", "", 0},
		{"it does not hold behind what is open", "0/1", "0/1", ".../.01", "", 0},
		{"it does not hold at its end, down", "01/01", "0/1", ".../..0/..1", "", 0},
	}
}

func TestFillsTold(t *testing.T) {
	told := func(c fillCase, want impl.Filled) {
		r, f := rulesOf(c.right, c.down), tiled(c.picture)
		wantFill(t, c.what, r, f, want, true)
		if slow, good := slowFill(r, f, mostTried); !alike(slow, want) || !good {
			t.Error(c.what, slow, good)
		}
	}
	for _, c := range fillsThatAreFound() {
		told(c, impl.Filled{Found: true, Field: tiled(c.want), Tried: c.tried})
	}
	for _, c := range fillsThatAreNot() {
		told(c, impl.Filled{Tried: c.tried})
	}
}

// fillsNearTheLimit holds fields that have a first filling, and how many sorts are laid until it is found.
func fillsNearTheLimit() []fillCase {
	return []fillCase{
		{"", "01/01", "0/01", "....../....../....../....1./....../1...0.", "", 4999},
		{"", "0123/0123/023/13", "3/013/3/12", "....../....../...0../2...../....../......", "", 4999},
		{"", "01/01", "0/01", "....../....../....../....1./....../1.....", "", 5000},
		{"", "01/01", "0/01", "....../....../....../.1..../....../1...1.", "", 5000},
		{"", "125/01245/45/01235/0235/01345", "345/01234/01245/4/03/3", "...../..0../...../...../...../.....", "", 5000},
		{"", "01245/0145/01235/01235/045/01245", "/3/245/012/34/2", "....../....../....../....../....../......", "", 5000},
		{"", "1235/0/1234/123/125/234", "1235/3/35//034/24", "....../....../....../......", "", 5001},
		{"", "14/234/234/12/234", "04/034/014/23/03", "....../....../....../....../3.4...", "", 5001},
		{"", "1/0/0234/1234/23", "0124/34/023/0234/0124", "....../.2...4/....../....../.0....", "", 5001},
		{"", "013/0123/0123/123", "///01", "....../......", "", 5002},
		{"", "123/012/0123/0123", "3/3/0123/0", "....../....../....../....../....../......", "", 5002},
	}
}

func TestFillsNearTheLimit(t *testing.T) {
	for _, c := range fillsNearTheLimit() {
		r, f := rulesOf(c.right, c.down), tiled(c.picture)
		want, good := slowFill(r, f, 2*mostTried)
		if !want.Found || want.Tried != c.tried || !slowHolds(r, want.Field) {
			t.Error(c.picture, want, good)
		}
		if want.Tried > mostTried {
			want = impl.Filled{Tried: mostTried}
		}
		wantFill(t, fmt.Sprint(c.tried, " tries"), r, f, want, good)
	}
}

// Fields without any filling: it is known by the last sort that may be laid, or never.
func TestFillsThatEndNearTheLimit(t *testing.T) {
	for _, c := range []fillCase{
		{"", "1/01/012", "02/02/012", "...../...../...../1..2.", "", 4999},
		{"", "012/012/012", "12//01", "....../....1./..0...", "", 5000},
		{"", "01/01/012", "02/012/01", "..../..../..../1.2.", "", 5000},
		{"", "02/012/02", "02/012/02", "....../.0..../.....1", "", 5001},
		{"", "012/012/012", "012/012/", "....../....../2...../......", "", 2 * mostTried},
		{"", "012345/012345/012345/012345/012345/012345", "12345/12345/12345/12345/12345/", "....../....../....../....../55555./.....0", "", 2 * mostTried},
	} {
		r, f := rulesOf(c.right, c.down), tiled(c.picture)
		slow, good := slowFill(r, f, 2*mostTried)
		if slow.Found || slow.Tried != c.tried {
			t.Error(c.picture, slow)
		}
		wantFill(t, "no filling", r, f, impl.Filled{Tried: min(c.tried, mostTried)}, good)
	}
}

func TestFillsOfWrongInputs(t *testing.T) {
	for what, f := range badFields(3) {
		wantFill(t, what, freeRules(3), f, impl.Filled{}, false)
		wantFill(t, what, barredRules(3), f, impl.Filled{}, false)
		wantHolds(t, what, freeRules(3), f, false)
	}
	for what, r := range badRuleBooks() {
		for _, f := range []impl.Field{tiled("0"), tiled("."), tiled("../..")} {
			wantFill(t, what, r, f, impl.Filled{}, false)
			wantHolds(t, what, r, f, false)
		}
	}
}

func TestFillsOfTheLimits(t *testing.T) {
	for sorts := 1; sorts <= mostSorts; sorts++ {
		all := impl.Filled{Found: true, Field: tiledWith(mostField, mostField, 0), Tried: mostField * mostField}
		wantFill(t, "the most, any beside any", freeRules(sorts), tiledWith(mostField, mostField, -1), all, true)
		wantFill(t, "one place, none beside any", barredRules(sorts), tiled("."), impl.Filled{Found: true, Field: tiled("0"), Tried: 1}, true)
		wantFill(t, "two places, none beside any", barredRules(sorts), tiled(".."), impl.Filled{Tried: sorts}, true)
		last := impl.Rules{Sorts: sorts, Right: sameLists(sorts, []int{sorts - 1}), Down: sameLists(sorts, []int{sorts - 1})}
		want := impl.Filled{Found: true, Field: withTile(tiledWith(mostField, mostField, sorts-1), 0, 0), Tried: mostField * mostField}
		wantFill(t, "the most, the last sort beside any", last, tiledWith(mostField, mostField, -1), want, true)
	}
}

// listsByBits gives lists out of the bits of a number, one for each two sorts.
func listsByBits(sorts int, bits int) [][]int {
	out := make([][]int, sorts)
	for a := range sorts {
		for b := range sorts {
			if bits>>(a*sorts+b)&1 == 1 {
				out[a] = append(out[a], b)
			}
		}
	}
	return out
}

// tilesByNumber gives a field of so many sorts out of a number.
func tilesByNumber(wide int, high int, sorts int, number int) impl.Field {
	f := tiledWith(wide, high, -1)
	for at := range f.Tiles {
		f.Tiles[at] = number%(sorts+1) - 1
		number /= sorts + 1
	}
	return f
}

// Promise 14, on all rules of two sorts and all fields of two by two: what is filled is the first of all
// fillings that hold, all of them written down.
func TestFillsOfAllSmallFields(t *testing.T) {
	kinds := map[bool]int{}
	for bits := range 1 << 8 {
		r := impl.Rules{Sorts: 2, Right: listsByBits(2, bits&15), Down: listsByBits(2, bits>>4)}
		for number := range 81 {
			f := tilesByNumber(2, 2, 2, number)
			want := fillByBeginnings(r, f)
			kinds[want.Found]++
			wantFill(t, "all small", r, f, want, true)
			wantHolds(t, "all small", r, f, holdsAll(r, f))
		}
	}
	if kinds[true] < 2000 || kinds[false] < 2000 {
		t.Error(kinds)
	}
}

// Promise 14, on all rules of three sorts along one way and all rows and columns of three places.
func TestFillsOfAllSmallRows(t *testing.T) {
	for bits := range 1 << 9 {
		lists, barred := listsByBits(3, bits), sameLists(3, nil)
		for number := range 64 {
			row, column := tilesByNumber(3, 1, 3, number), tilesByNumber(1, 3, 3, number)
			across := impl.Rules{Sorts: 3, Right: lists, Down: barred}
			wantFill(t, "all rows", across, row, fillByBeginnings(across, row), true)
			down := impl.Rules{Sorts: 3, Right: barred, Down: lists}
			wantFill(t, "all columns", down, column, fillByBeginnings(down, column), true)
		}
	}
}

// coinRules gives good rules; dense of ten pairs may stand side by side.
func coinRules(next func(int) int, sorts int, dense int) impl.Rules {
	r := barredRules(sorts)
	for _, lists := range [][][]int{r.Right, r.Down} {
		for a := range lists {
			for b := range sorts {
				if next(10) < dense {
					lists[a] = append(lists[a], b)
				}
			}
		}
	}
	return r
}

// coinField gives a good field in which about one of so many places is open; rarely it holds by chance.
func coinField(next func(int) int, wide int, high int, sorts int, open int) impl.Field {
	f := tiledWith(wide, high, -1)
	for at := range f.Tiles {
		if next(open) > 0 {
			f.Tiles[at] = next(sorts)
		}
	}
	return f
}

// heldField gives a good field that holds: tiles are laid here and there where they may stand.
func heldField(next func(int) int, r impl.Rules, wide int, high int, tiles int) impl.Field {
	f := tiledWith(wide, high, -1)
	for range tiles {
		then := withTile(f, next(len(f.Tiles)), next(r.Sorts))
		if holdsAll(r, then) {
			f = then
		}
	}
	return f
}

// holdsPromise14 asks what was answered of a good field: all stands that stood, nothing is open, it holds,
// and with any lesser sort at any open place, all ahead of it being the same, there is no filling. What
// was not found ahead of the limit is not there.
func holdsPromise14(t *testing.T, r impl.Rules, f impl.Field, got impl.Filled) {
	t.Helper()
	if !got.Found {
		if got.Tried < mostTried && holdsAll(r, f) && mayBeFilled(r, f) {
			t.Fatal("there is a filling", r, f, got)
		}
		return
	}
	if got.Field.Wide != f.Wide || got.Field.High != f.High || !slowHolds(r, got.Field) || slices.Contains(got.Field.Tiles, -1) {
		t.Fatal("it does not hold", r, f, got)
	}
	begun := f
	for at, tile := range f.Tiles {
		if tile != -1 && tile != got.Field.Tiles[at] {
			t.Fatal("it does not stand where it stood", r, f, got)
		}
		for lesser := range got.Field.Tiles[at] {
			if tile == -1 && mayBeFilled(r, withTile(begun, at, lesser)) {
				t.Fatal("it is not the first", r, f, got, at, lesser)
			}
		}
		begun = withTile(begun, at, got.Field.Tiles[at])
	}
}

// Promise 14, on fields of coins.
func TestFillsOfCoins(t *testing.T) {
	kinds := map[string]int{}
	for seed := range 3000 {
		next := coinRow(seed + 1414)
		shape := [][3]int{{2, 1 + next(6), 6}, {3, 1 + next(6), 3}, {4, 1 + next(5), 2}, {1, 6, 6}, {3, 1 + next(4), 4}, {5, 1 + next(3), 2}}[next(6)]
		r := coinRules(next, 1+next(shape[2]), 3+next(7))
		f := heldField(next, r, shape[0], shape[1], next(6))
		want, good := slowFill(r, f, mostTried)
		wantFill(t, "coins", r, f, want, good)
		got, _ := impl.FillField(r, f)
		holdsPromise14(t, r, f, got)
		switch {
		case got.Found && got.Tried > len(openOnes(f)):
			kinds["found, gone back"]++
		case got.Found:
			kinds["found"]++
		case got.Tried < mostTried:
			kinds["not there"]++
		}
	}
	if kinds["found"] < 50 || kinds["found, gone back"] < 50 || kinds["not there"] < 50 {
		t.Error(kinds)
	}
}

// Fields as great as they may be, held against the slow model alone; what is found fills itself again.
func TestFillsOfGreatFields(t *testing.T) {
	kinds := map[string]int{}
	for seed := range 400 {
		next := coinRow(seed + 141)
		r := coinRules(next, 2+next(5), 4+next(5))
		f := heldField(next, r, 4+next(3), 4+next(3), next(8))
		want, good := slowFill(r, f, mostTried)
		wantFill(t, "great", r, f, want, good)
		got, _ := impl.FillField(r, f)
		if got.Found {
			kinds["found"]++
			wantHolds(t, "what is filled", r, got.Field, true)
			wantFill(t, "what is filled", r, got.Field, impl.Filled{Found: true, Field: got.Field}, true)
		} else if got.Tried == mostTried {
			kinds["too far"]++
		}
	}
	if kinds["found"] < 30 || kinds["too far"] < 10 {
		t.Error(kinds)
	}
}

// What may stand by what stands then: each tile of a filling may stand where it stands.
func TestWhatIsFilledMayStand(t *testing.T) {
	for seed := range 100 {
		next := coinRow(seed + 4141)
		r := coinRules(next, 2+next(5), 6+next(4))
		f := heldField(next, r, 1+next(6), 1+next(6), next(5))
		got, _ := impl.FillField(r, f)
		for at, tile := range got.Field.Tiles {
			if sorts, good := impl.MayStand(r, got.Field, at); !slices.Contains(sorts, tile) || !good {
				t.Fatal(r, f, got, at, sorts)
			}
		}
	}
}

func TestHoldsAndMayStandOfCoins(t *testing.T) {
	kinds := map[bool]int{}
	for seed := range 600 {
		next := coinRow(seed + 77)
		r := coinRules(next, 1+next(6), 3+next(8))
		f := coinField(next, 1+next(6), 1+next(6), r.Sorts, 1+next(4))
		holds := slowHolds(r, f)
		kinds[holds]++
		wantHolds(t, "coins", r, f, holds)
		for range 6 {
			at := next(len(f.Tiles))
			want, good := slowMayStand(r, f, at)
			wantMayStand(t, "coins", r, f, at, want, good)
		}
	}
	if kinds[true] < 50 || kinds[false] < 50 {
		t.Error(kinds)
	}
}

func TestMasksTold(t *testing.T) {
	for _, c := range []struct {
		what    string
		picture string
		at      int
		sort    int
		want    int
	}{
		{"a field of one place", "0", 0, 0, 15},
		{"of one place, another sort", "0", 0, 5, 15},
		{"of one open place", ".", 0, 3, 15},
		{"the middle, none", "000/010/000", 4, 1, 0},
		{"the middle, all", "121/212/121", 4, 2, 15},
		{"the middle, open ones", ".../.1./...", 4, 1, 0},
		{"the middle, above", "010/0.0/000", 4, 1, 1},
		{"the middle, right", "000/0.1/000", 4, 1, 2},
		{"the middle, below", "000/0.0/010", 4, 1, 4},
		{"the middle, left", "000/1.0/000", 4, 1, 8},
		{"the middle, over corners", "101/000/101", 4, 1, 0},
		{"the middle, a sort that stands there", "040/434/444", 4, 3, 0},
		{"the middle, a sort that does not", "040/434/444", 4, 4, 15},
		{"the middle, a sort that stands nowhere", "040/434/444", 4, 1, 0},
		{"the first corner", "000/000/000", 0, 1, 9},
		{"the second corner", "000/000/000", 2, 1, 3},
		{"the third corner", "000/000/000", 6, 1, 12},
		{"the last corner", "000/000/000", 8, 1, 6},
		{"the upper edge", "000/000/000", 1, 1, 1},
		{"the right edge", "000/000/000", 5, 1, 2},
		{"the lower edge", "000/000/000", 7, 1, 4},
		{"the left edge", "000/000/000", 3, 1, 8},
		{"the first corner, all", "111/111/111", 0, 1, 15},
		{"the upper edge, right", "001/000/000", 1, 1, 3},
		{"the upper edge, left", "100/000/000", 1, 1, 9},
		{"the upper edge, below", "000/010/000", 1, 1, 5},
		{"the right edge, not the next row's first", "000/000/100", 5, 1, 2},
		{"the left edge, not the last row's end", "001/000/000", 3, 1, 8},
		{"a row, at its begin", "01000", 0, 1, 15},
		{"a row, in its midst", "00010", 2, 1, 7},
		{"a row, at its end", "00000", 4, 1, 7},
		{"a column, at its begin", "0/1/0", 0, 0, 11},
		{"a column, in its midst", "0/1/0", 1, 0, 15},
		{"a column, in its midst, none", "0/1/0", 1, 1, 10},
		{"a column, at its end", "0/1/0", 2, 0, 14},
		{"all unlike", "01/23/45", 2, 0, 9},
		{"the last sort", "01/23/45", 2, 4, 12},
		{"the last sort of all", "01/23/45", 3, 5, 6},
	} {
		wantMask(t, c.what, tiled(c.picture), c.at, c.sort, c.want)
		if slow := slowMask(tiled(c.picture), c.at, c.sort); slow != c.want {
			t.Error(c.what, slow)
		}
	}
}

func TestMasksOfWrongInputs(t *testing.T) {
	for _, f := range []impl.Field{tiled("."), tiled("012/345"), tiledWith(6, 5, 0)} {
		for _, at := range notPlaces(f) {
			wantMask(t, "no place", f, at, 0, -1)
		}
		for _, sort := range append(farNumbers(), -1, -2, mostSorts, mostSorts+1, 1<<32) {
			wantMask(t, "no sort", f, 0, sort, -1)
		}
	}
	for what, f := range badFields(mostSorts) {
		wantMask(t, what, f, 0, 0, -1)
		wantMask(t, what, f, 1, 1, -1)
	}
	for what, f := range goodFields(mostSorts) {
		for _, sort := range []int{0, mostSorts - 1} {
			wantMask(t, what, f, 0, sort, slowMask(f, 0, sort))
		}
	}
}

// lowPicks and highPicks together tell a mask: its two low bits and its two high ones.
func lowPicks() []int { return slices.Repeat([]int{0, 1, 2, 3}, 4) }

func highPicks() []int { return []int{0, 0, 0, 0, 1, 1, 1, 1, 2, 2, 2, 2, 3, 3, 3, 3} }

// allPicks gives the same number for each mask.
func allPicks(tile int) []int { return slices.Repeat([]int{tile}, manyPicks) }

func pickedAt(picks []int, mask int, tile int) []int {
	out := slices.Clone(picks)
	out[mask] = tile
	return out
}

func TestAutoTold(t *testing.T) {
	for _, c := range []struct {
		what    string
		picture string
		sort    int
		picks   []int
		want    string
	}{
		{"one place", "0", 0, pickedAt(allPicks(0), 15, 5), "5"},
		{"one place of another sort", "1", 0, allPicks(5), "1"},
		{"one open place", ".", 0, allPicks(5), "."},
		{"a sort that stands nowhere", "01./210", 3, allPicks(4), "01./210"},
		{"all of one sort", "00/00", 0, pickedAt(allPicks(1), 15, 2), "22/22"},
		{"to what it was", "01/10", 0, allPicks(0), "01/10"},
		{"to open ones", "01/10", 0, allPicks(-1), ".1/1."},
		{"to the last sort", "01/10", 1, allPicks(5), "05/50"},
		{"by what stood before, to the right", "44", 4, pickedAt(allPicks(0), 15, 1), "11"},
		{"by what stood before, down", "4/4", 4, pickedAt(allPicks(0), 15, 1), "1/1"},
		{"by what stood before, in a square", "44/44", 4, pickedAt(allPicks(0), 15, -1), "../.."},
		{"what is made beside it counts not", "0101", 0, allPicks(1), "1111"},
		{"the low bits", "...../..4../.444./..4../.....", 4, lowPicks(), "...../..0../.230./..1../....."},
		{"the high bits", "...../..4../.444./..4../.....", 4, highPicks(), "...../..1../.032./..0../....."},
		{"the low bits of the edges", "404/000/404", 4, lowPicks(), "103/000/002"},
		{"the high bits of the edges", "404/000/404", 4, highPicks(), "200/000/301"},
	} {
		wantAuto(t, c.what, tiled(c.picture), c.sort, c.picks, tiled(c.want), true)
		if slow, good := slowAuto(tiled(c.picture), c.sort, c.picks); !alike(slow, tiled(c.want)) || !good {
			t.Error(c.what, slow, good)
		}
	}
}

func TestAutoByPicks(t *testing.T) {
	f := tiled("0.0/000/1.0")
	for many := range 40 {
		want, good := slowAuto(f, 0, make([]int, many))
		if good != (many == 16) {
			t.Error(many, good)
		}
		wantAuto(t, fmt.Sprint(many, " numbers"), f, 0, make([]int, many), want, good)
	}
	for _, tile := range append(farNumbers(), -2, -1, 0, mostSorts-1, mostSorts, mostSorts+1, 1<<32, 1<<32-1, 255) {
		for mask := range manyPicks {
			picks := pickedAt(allPicks(2), mask, tile)
			want, good := slowAuto(f, 0, picks)
			if good != (-1 <= tile && tile <= 5) {
				t.Error(tile, good)
			}
			wantAuto(t, fmt.Sprint(tile, " at ", mask), f, 0, picks, want, good)
		}
	}
}

func TestAutoOfWrongInputs(t *testing.T) {
	for _, f := range []impl.Field{tiled("."), tiled("012/345")} {
		for _, sort := range append(farNumbers(), -1, -2, mostSorts, mostSorts+1, 1<<32) {
			wantAuto(t, "no sort", f, sort, allPicks(1), impl.Field{}, false)
		}
		wantAuto(t, "no number", f, 0, nil, impl.Field{}, false)
		wantAuto(t, "far too many numbers", f, 0, make([]int, 2000), impl.Field{}, false)
	}
	for what, f := range badFields(mostSorts) {
		wantAuto(t, what, f, 0, allPicks(1), impl.Field{}, false)
	}
	for what, f := range goodFields(mostSorts) {
		want, good := slowAuto(f, mostSorts-1, lowPicks())
		wantAuto(t, what, f, mostSorts-1, lowPicks(), want, good)
	}
}

func coinPicks(next func(int) int) []int {
	var out []int
	for range manyPicks {
		out = append(out, next(mostSorts+1)-1)
	}
	return out
}

func TestMasksAndAutoOfCoins(t *testing.T) {
	for seed := range 300 {
		next := coinRow(seed + 3131)
		f := coinField(next, 1+next(6), 1+next(6), 1+next(mostSorts), 2+next(3))
		sort := next(mostSorts)
		for at := range f.Tiles {
			wantMask(t, "coins", f, at, sort, slowMask(f, at, sort))
		}
		picks := coinPicks(next)
		want, good := slowAuto(f, sort, picks)
		wantAuto(t, "coins", f, sort, picks, want, good)
	}
}

// strangeTile gives a number at or beyond a limit of this chapter, or a small one.
func strangeTile(next func(int) int) int {
	odd := append(farNumbers(), -2, -1, 0, 1, 2, mostSorts-1, mostSorts, mostSorts+1, manyPicks, 35, 36, mostTried, mostTried+1, 1<<32)
	return odd[next(len(odd))]
}

// spoiledRules gives rules with something in them that may be not good.
func spoiledRules(r impl.Rules, next func(int) int) impl.Rules {
	r = impl.Rules{Sorts: r.Sorts, Right: slices.Clone(r.Right), Down: slices.Clone(r.Down)}
	lists := &r.Right
	if next(2) == 0 {
		lists = &r.Down
	}
	at := next(len(*lists))
	switch next(5) {
	case 0:
		r.Sorts = strangeTile(next)
	case 1:
		*lists = (*lists)[:at]
	case 2:
		*lists = append(*lists, []int{0})
	case 3:
		(*lists)[at] = append(slices.Clone((*lists)[at]), strangeTile(next))
	default:
		(*lists)[at] = slices.Insert(slices.Clone((*lists)[at]), 0, strangeTile(next))
	}
	return r
}

// spoiledField gives a field with something in it that may be not good.
func spoiledField(f impl.Field, next func(int) int) impl.Field {
	switch next(5) {
	case 0:
		f.Wide = strangeTile(next)
	case 1:
		f.High = strangeTile(next)
	case 2:
		f = withTile(f, next(len(f.Tiles)), strangeTile(next))
	case 3:
		f.Tiles = f.Tiles[:next(len(f.Tiles))]
	default:
		f.Tiles = append(slices.Clone(f.Tiles), next(mostSorts+1)-1)
	}
	return f
}

// Promise 29.
func TestTilesAnswerAtAnyArguments(t *testing.T) {
	kinds := map[bool]int{}
	for seed := range 2500 {
		next := coinRow(seed + 2929)
		r := coinRules(next, 1+next(mostSorts), 4+next(6))
		f := heldField(next, r, 1+next(4), 1+next(4), next(9))
		at, sort, picks := next(17), next(mostSorts), coinPicks(next)
		if next(4) == 0 {
			r = spoiledRules(r, next)
		}
		if next(4) == 0 {
			f = spoiledField(f, next)
		}
		if next(3) == 0 {
			at, sort = strangeTile(next), strangeTile(next)
			picks = append(picks[:next(manyPicks+1)], strangeTile(next))
		}
		kinds[slowGoodField(r, f)]++
		wantGoodRules(t, "any", r, slowGoodRules(r))
		wantGoodField(t, "any", r, f, slowGoodField(r, f))
		wantHolds(t, "any", r, f, slowHolds(r, f))
		may, good := slowMayStand(r, f, at)
		wantMayStand(t, "any", r, f, at, may, good)
		fill, good := slowFill(r, f, mostTried)
		wantFill(t, "any", r, f, fill, good)
		wantMask(t, "any", f, at, sort, slowMask(f, at, sort))
		auto, good := slowAuto(f, sort, picks)
		wantAuto(t, "any", f, sort, picks, auto, good)
	}
	if kinds[true] < 500 || kinds[false] < 500 {
		t.Error(kinds)
	}
}

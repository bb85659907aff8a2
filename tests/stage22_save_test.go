package tests

import (
	"bytes"
	"encoding/binary"
	"fmt"
	"hash/fnv"
	"io"
	"maps"
	"math"
	"math/big"
	"slices"
	"strconv"
	"strings"
	"testing"

	"loop.example/g00064/impl"
)

const mostFields = 30
const mostSave = 4000
const versionNow = 3
const lastVersion = 250
const longestText = 100
const mostBy = 1000000
const farMoved = 1000000000000000

func value(name string, number int, text string) impl.Value {
	return impl.Value{Name: name, Number: number, Text: text}
}

// valuesOf reads values out of words like `a=-5:text`, in which number and text may lack.
func valuesOf(words string) []impl.Value {
	var out []impl.Value
	for _, word := range strings.Fields(words) {
		head, text, _ := strings.Cut(word, ":")
		name, digits, _ := strings.Cut(head, "=")
		number, _ := strconv.Atoi(digits)
		out = append(out, value(name, number, text))
	}
	return out
}

func manyValues(many int) []impl.Value {
	var out []impl.Value
	for i, name := range manyNames(many) {
		out = append(out, value(name, i, ""))
	}
	return out
}

// greatestValues gives values that take as many bytes as good ones may.
func greatestValues() []impl.Value {
	var out []impl.Value
	for i := range mostFields {
		name := strings.Repeat("x", impl.MaxName-2) + fmt.Sprintf("%02d", i)
		out = append(out, value(name, math.MinInt+i, strings.Repeat("\xff", longestText)))
	}
	return out
}

// changesOf reads changes out of words: the version, `:`, the name, and then `>` and what it is called,
// `+` and `*` and a number, `!` where it goes, or `=` and the number of a new one.
func changesOf(words string) []impl.Change {
	var out []impl.Change
	for _, word := range strings.Fields(words) {
		from, rest, _ := strings.Cut(word, ":")
		at := strings.IndexAny(rest, ">+*!=")
		c := impl.Change{Kind: 1 + strings.IndexByte(">+*!=", rest[at]), Name: rest[:at]}
		c.From, _ = strconv.Atoi(from)
		if c.Kind == impl.ChangeName {
			c.To = rest[at+1:]
		} else {
			c.By, _ = strconv.Atoi(rest[at+1:])
		}
		out = append(out, c)
	}
	return out
}

func withChange(l []impl.Change, at int, change func(*impl.Change)) []impl.Change {
	out := slices.Clone(l)
	change(&out[at])
	return out
}

// sealed gives a content with its digest behind it, whatever it holds.
func sealed(content []byte) []byte {
	sum := fnv.New32a()
	sum.Write(content)
	return binary.BigEndian.AppendUint32(bytes.Clone(content), sum.Sum32())
}

// sealedSave gives a save of the bytes behind its mark.
func sealedSave(behindMark ...byte) []byte { return sealed(append([]byte("SAVE"), behindMark...)) }

// resealed gives a save with one byte made another and a digest that is right again.
func resealed(save []byte, at int, is byte) []byte {
	content := bytes.Clone(save[:len(save)-4])
	content[at] = is
	return sealed(content)
}

// packed gives the bytes of a value as they stand in a save.
func packed(v impl.Value) []byte {
	out := append([]byte{byte(len(v.Name))}, v.Name...)
	out = binary.LittleEndian.AppendUint64(out, uint64(v.Number))
	out = append(out, byte(len(v.Text)))
	return append(out, v.Text...)
}

// packedSave gives a save of a version and values that need not be good.
func packedSave(version int, l []impl.Value) []byte {
	content := []byte{byte(version), byte(len(l))}
	for _, v := range l {
		content = append(content, packed(v)...)
	}
	return sealedSave(content...)
}

func slowGoodValues(l []impl.Value) bool {
	good := len(l) <= 30
	for i, v := range l[:min(len(l), 40)] {
		good = good && slowGoodName(v.Name) && len(v.Text) <= 100 && (i == 0 || strings.Compare(l[i-1].Name, v.Name) < 0)
	}
	return good
}

func slowWrite(version int, l []impl.Value) ([]byte, bool) {
	if !within(1, version, 250) || !slowGoodValues(l) {
		return nil, false
	}
	return packedSave(version, l), true
}

// slowString reads a byte and as many bytes as it says.
func slowString(from *bytes.Reader) (string, error) {
	many, err := from.ReadByte()
	if err != nil {
		return "", err
	}
	text := make([]byte, many)
	_, err = io.ReadFull(from, text)
	return string(text), err
}

func slowValue(from *bytes.Reader) (impl.Value, bool) {
	name, err := slowString(from)
	var number int64
	err2 := binary.Read(from, binary.LittleEndian, &number)
	text, err3 := slowString(from)
	return value(name, int(number), text), err == nil && err2 == nil && err3 == nil
}

func slowRead(b []byte) (int, []impl.Value, int) {
	switch {
	case len(b) > 4000:
		return 0, nil, 5
	case len(b) < 10:
		return 0, nil, 1
	case string(b[:4]) != "SAVE":
		return 0, nil, 2
	case !bytes.Equal(sealed(b[:len(b)-4]), b):
		return 0, nil, 3
	}
	from := bytes.NewReader(b[6 : len(b)-4])
	var l []impl.Value
	for range b[5] {
		v, whole := slowValue(from)
		if !whole {
			return 0, nil, 1
		}
		l = append(l, v)
	}
	if !within(1, int(b[4]), 250) || from.Len() > 0 || !slowGoodValues(l) {
		return 0, nil, 5
	}
	return int(b[4]), l, 0
}

func slowGoodChanges(l []impl.Change) bool {
	good := len(l) <= 30
	for i, c := range l[:min(len(l), 40)] {
		good = good && (c.From == 1 || c.From == 2) && (i == 0 || l[i-1].From <= c.From) && slowGoodName(c.Name)
		named, numbered := c.Kind == 1, c.Kind == 2 || c.Kind == 3 || c.Kind == 5
		good = good && (named || numbered || c.Kind == 4)
		good = good && (named && slowGoodName(c.To) || !named && c.To == "")
		good = good && (numbered && within(-1000000, c.By, 1000000) || c.By == 0)
	}
	return good
}

// slowMoved gives the number that a change makes of another one, in numbers without end.
func slowMoved(c impl.Change, number int) (int, bool) {
	made, by := big.NewInt(int64(number)), big.NewInt(int64(c.By))
	if c.Kind == 2 {
		made.Add(made, by)
	} else {
		made.Mul(made, by)
	}
	return int(made.Int64()), made.CmpAbs(big.NewInt(1e15)) <= 0
}

// slowMigrate has the values without order, and sorts them in the end.
func slowMigrate(version int, l []impl.Value, changes []impl.Change) ([]impl.Value, bool) {
	if !within(1, version, 3) || !slowGoodValues(l) || !slowGoodChanges(changes) {
		return nil, false
	}
	byName := map[string]impl.Value{}
	for _, v := range l {
		byName[v.Name] = v
	}
	for _, c := range changes {
		v, there := byName[c.Name]
		switch {
		case c.From < version:
		case c.Kind == 5 && !there:
			byName[c.Name] = impl.Value{Name: c.Name, Number: c.By}
		case c.Kind == 5 || !there:
		case c.Kind == 4:
			delete(byName, c.Name)
		case c.Kind == 1:
			if _, taken := byName[c.To]; taken {
				return nil, false
			}
			delete(byName, c.Name)
			byName[c.To] = value(c.To, v.Number, v.Text)
		default:
			made, fits := slowMoved(c, v.Number)
			if !fits {
				return nil, false
			}
			byName[c.Name] = value(v.Name, made, v.Text)
		}
		if len(byName) > 30 {
			return nil, false
		}
	}
	var out []impl.Value
	for _, name := range slices.Sorted(maps.Keys(byName)) {
		out = append(out, byName[name])
	}
	return out, true
}

func slowLoad(b []byte, changes []impl.Change) ([]impl.Value, int) {
	version, l, code := slowRead(b)
	if code != 0 {
		return nil, code
	}
	if version > 3 {
		return nil, 4
	}
	l, good := slowMigrate(version, l, changes)
	if !good {
		return nil, 6
	}
	return l, 0
}

func wantGoodValues(t *testing.T, what string, l []impl.Value, want bool) {
	t.Helper()
	if got := purely(t, "GoodValues", impl.GoodValues, l); got[0] != want || slowGoodValues(l) != want {
		t.Errorf("%s: GoodValues %v = %v, want %v", what, l, got, want)
	}
}

func wantWrite(t *testing.T, what string, version int, l []impl.Value, want []byte, good bool) {
	t.Helper()
	if got := purely(t, "WriteSave", impl.WriteSave, version, l); !alike(got[0], want) || got[1] != good {
		t.Errorf("%s: WriteSave %d, %v = %v, want %v, %v", what, version, l, got, want, good)
	}
}

func wantSlowWrite(t *testing.T, what string, version int, l []impl.Value) {
	t.Helper()
	want, good := slowWrite(version, l)
	wantWrite(t, what, version, l, want, good)
}

func wantRead(t *testing.T, what string, b []byte, version int, l []impl.Value, code int) {
	t.Helper()
	if got := purely(t, "ReadSave", impl.ReadSave, b); got[0] != version || !alike(got[1], l) || got[2] != code {
		t.Errorf("%s: ReadSave %q = %v, want %d, %v, %d", what, b, got, version, l, code)
	}
}

// wantRefused asks for a code and nothing else, of ReadSave and of LoadSave, whatever the changes are.
func wantRefused(t *testing.T, what string, b []byte, code int) {
	t.Helper()
	wantRead(t, what, b, 0, nil, code)
	for _, changes := range [][]impl.Change{nil, changesOf("1:a+1"), changesOf("0:a+1")} {
		wantLoad(t, what, b, changes, nil, code)
	}
}

func wantSlowRead(t *testing.T, what string, b []byte) {
	t.Helper()
	version, l, code := slowRead(b)
	wantRead(t, what, b, version, l, code)
}

func wantGoodChanges(t *testing.T, what string, l []impl.Change, want bool) {
	t.Helper()
	if got := purely(t, "GoodChanges", impl.GoodChanges, l); got[0] != want || slowGoodChanges(l) != want {
		t.Errorf("%s: GoodChanges %v = %v, want %v", what, l, got, want)
	}
}

func wantMigrate(t *testing.T, what string, version int, l []impl.Value, changes []impl.Change, want []impl.Value, good bool) {
	t.Helper()
	got := purely(t, "MigrateSave", impl.MigrateSave, version, l, changes)
	if !alike(got[0], want) || got[1] != good {
		t.Errorf("%s: MigrateSave %d, %v, %v = %v, want %v, %v", what, version, l, changes, got, want, good)
	}
}

func wantSlowMigrate(t *testing.T, what string, version int, l []impl.Value, changes []impl.Change) {
	t.Helper()
	want, good := slowMigrate(version, l, changes)
	wantMigrate(t, what, version, l, changes, want, good)
}

func wantLoad(t *testing.T, what string, b []byte, changes []impl.Change, want []impl.Value, code int) {
	t.Helper()
	if got := purely(t, "LoadSave", impl.LoadSave, b, changes); !alike(got[0], want) || got[1] != code {
		t.Errorf("%s: LoadSave %q, %v = %v, want %v, %d", what, b, changes, got, want, code)
	}
}

func wantSlowLoad(t *testing.T, what string, b []byte, changes []impl.Change) {
	t.Helper()
	want, code := slowLoad(b, changes)
	wantLoad(t, what, b, changes, want, code)
}

func TestSaveConstants(t *testing.T) {
	if impl.MaxFields != mostFields || impl.MaxSave != mostSave || impl.SaveVersion != versionNow {
		t.Error(impl.MaxFields, impl.MaxSave, impl.SaveVersion)
	}
	codes := []int{impl.SaveOk, impl.SaveShort, impl.SaveMark, impl.SaveSum, impl.SaveNew, impl.SaveForm, impl.SaveMove}
	if !slices.Equal(codes, counted(7)) {
		t.Error(codes)
	}
	kinds := []int{impl.ChangeName, impl.ChangeAdd, impl.ChangeTimes, impl.ChangeDrop, impl.ChangeNew}
	if !slices.Equal(kinds, counted(6)[1:]) {
		t.Error(kinds)
	}
}

func goodValueLists() map[string][]impl.Value {
	fewest := manyValues(mostFields)
	for i := range fewest {
		fewest[i].Text = strings.Repeat("t", i*longestText/mostFields)
	}
	return map[string][]impl.Value{
		"no value":                    nil,
		"one":                         valuesOf("a"),
		"one with all":                valuesOf("a=-5:text"),
		"three":                       valuesOf("a=1:x b=2:yz c"),
		"names of any kind":           valuesOf("A Z9 _ _1 a a_ aa z"),
		"the least name":              valuesOf("A"),
		"the greatest name":           valuesOf(longName),
		"names alike at their ends":   valuesOf("a aa ab b ba"),
		"as many as may be":           manyValues(mostFields),
		"one fewer":                   manyValues(mostFields - 1),
		"as many bytes as may be":     greatestValues(),
		"texts of many lengths":       fewest,
		"a text of 99 bytes":          {value("a", 0, strings.Repeat("x", longestText-1))},
		"a text of 100 bytes":         {value("a", 0, strings.Repeat("x", longestText))},
		"a text of 100 bytes, by 50":  {value("a", 0, strings.Repeat("é", longestText/2))},
		"100 bytes 0":                 {value("a", 0, strings.Repeat("\x00", longestText))},
		"100 bytes 255":               {value("a", 0, strings.Repeat("\xff", longestText))},
		"a byte 0 and 255":            {value("a", 0, "\x00\xff"), value("b", 0, "\xff\x00")},
		"a text that looks as a save": {value("a", 0, "SAVE\x01\x00")},
		"the same text and number":    valuesOf("a=7:x b=7:x"),
	}
}

func badValueLists() map[string][]impl.Value {
	last := manyValues(mostFields)
	last[mostFields-1].Text = strings.Repeat("x", longestText+1)
	return map[string][]impl.Value{
		"one too many":               manyValues(mostFields + 1),
		"far too many":               manyValues(99),
		"as many as a byte, and one": slices.Repeat(valuesOf("a"), 257),
		"as many as two bytes":       make([]impl.Value, 65536),
		"an empty name":              {{}},
		"an empty name, and more":    {value("", 1, "x"), value("a", 2, "y")},
		"an empty name behind":       {value("a", 1, "x"), value("", 2, "y")},
		"a digit first":              valuesOf("1a"),
		"a name too long":            valuesOf(longName + "z"),
		"a byte of no name":          valuesOf("a-b"),
		"a rune of no name":          valuesOf("é"),
		"the last name":              valuesOf("a b c-"),
		"twice the same name":        valuesOf("a a"),
		"twice, with other numbers":  valuesOf("a=1 a=2"),
		"twice, apart":               valuesOf("a b a"),
		"names that fall":            valuesOf("b a"),
		"the last name falls":        valuesOf("a c b"),
		"a beginning behind":         valuesOf("ab a"),
		"small letters first":        valuesOf("a B"),
		"a text of 101 bytes":        {value("a", 0, strings.Repeat("x", longestText+1))},
		"101 bytes by runes":         {value("a", 0, strings.Repeat("é", longestText/2)+"x")},
		"a text of 256 bytes":        {value("a", 0, strings.Repeat("x", 256))},
		"a text far too long":        {value("a", 0, strings.Repeat("x", 100000))},
		"the last text":              last,
		"the first text":             {value("a", 0, strings.Repeat("x", longestText+1)), value("b", 0, "")},
	}
}

// saveVersions holds versions on both sides of each limit, and such as a byte would cut to good ones.
func saveVersions() []int {
	return append(farNumbers(), -256, -255, -1, 0, 1, 2, versionNow, versionNow+1, 5, 100, 249, lastVersion, 251, 255, 256, 257, 259, 506, 1<<32+1)
}

func TestGoodValues(t *testing.T) {
	for what, l := range goodValueLists() {
		wantGoodValues(t, what, l, true)
		for _, version := range saveVersions() {
			wantSlowWrite(t, what, version, l)
		}
	}
	for what, l := range badValueLists() {
		wantGoodValues(t, what, l, false)
		for _, version := range []int{0, 1, versionNow, lastVersion} {
			wantWrite(t, what, version, l, nil, false)
			wantMigrate(t, what, version, l, nil, nil, false)
			wantMigrate(t, what, version, l, changesOf("1:a!"), nil, false)
		}
	}
}

// One thing of good values is made another, at each place.
func TestGoodValuesWithOneThingChanged(t *testing.T) {
	base := valuesOf("a=1:x b=2 d=-4:yz e")
	for at := range base {
		for _, name := range append(badNames(), "A", "a", "aa", "b", "bb", "c", "d", "dd", "e", "f", longName) {
			l := slices.Clone(base)
			l[at].Name = name
			wantGoodValues(t, "a name", l, slowGoodValues(l))
			wantSlowWrite(t, "a name", 7, l)
			wantSlowMigrate(t, "a name", 1, l, changesOf("1:b+1 2:e>f"))
		}
		for _, many := range []int{0, 1, longestText - 1, longestText, longestText + 1, 2 * longestText, 255, 256, 356} {
			for _, of := range []string{"\x00", "q", "\xff"} {
				l := slices.Clone(base)
				l[at].Text = strings.Repeat(of, many)
				wantGoodValues(t, "a text", l, many <= longestText)
				wantSlowWrite(t, "a text", 7, l)
				wantSlowMigrate(t, "a text", 1, l, changesOf("1:b+1 2:e>f"))
			}
		}
		for _, number := range spreadOfNumbers() {
			l := slices.Clone(base)
			l[at].Number = number
			wantGoodValues(t, "a number", l, true)
			wantSlowWrite(t, "a number", 7, l)
		}
	}
}

// spreadOfNumbers holds numbers of all sizes, with bytes that differ.
func spreadOfNumbers() []int {
	out := append(farNumbers(), 0, 0x0102030405060708, -0x0102030405060708, farMoved, -farMoved, farMoved+1, -farMoved-1)
	for bit := range 63 {
		out = append(out, 1<<bit, 1<<bit-1, -1<<bit, -1<<bit-1, 1<<bit+1)
	}
	return out
}

func TestSavesTold(t *testing.T) {
	for _, c := range []struct {
		what    string
		version int
		l       []impl.Value
		want    []byte
	}{
		{"no value", 1, nil, []byte{83, 65, 86, 69, 1, 0, 148, 139, 203, 49}},
		{"the last version", 250, nil, []byte{83, 65, 86, 69, 250, 0, 42, 82, 203, 194}},
		{"one", 1, valuesOf("a=-5"), []byte{83, 65, 86, 69, 1, 1, 1, 97, 251, 255, 255, 255, 255, 255, 255, 255, 0, 72, 234, 5, 40}},
		{"with a text", 3, valuesOf("hp=258:ok"), []byte{83, 65, 86, 69, 3, 1, 2, 104, 112, 2, 1, 0, 0, 0, 0, 0, 0, 2, 111, 107, 128, 121, 232, 177}},
		{"two", 2, []impl.Value{value("A", math.MaxInt, "\x00"), value("b_9", math.MinInt, "\xff\n")}, []byte{83, 65, 86, 69, 2, 2,
			1, 65, 255, 255, 255, 255, 255, 255, 255, 127, 1, 0,
			3, 98, 95, 57, 0, 0, 0, 0, 0, 0, 0, 128, 2, 255, 10, 205, 62, 217, 161}},
	} {
		wantWrite(t, c.what, c.version, c.l, c.want, true)
		wantSlowWrite(t, c.what, c.version, c.l)
		wantRead(t, c.what, c.want, c.version, c.l, impl.SaveOk)
	}
	b, good := impl.WriteSave(9, greatestValues())
	if !good || len(b) != 6+30*130+4 || b[5] != 30 || b[6] != 20 {
		t.Error("the greatest save of all", len(b), good)
	}
}

// Of a number each byte stands at its place, the lowest first.
func TestNumbersInSaves(t *testing.T) {
	for _, number := range spreadOfNumbers() {
		l := []impl.Value{value("a", number, "")}
		b, good := impl.WriteSave(1, l)
		if !good || len(b) != 21 {
			t.Fatal(number, b)
		}
		rest := new(big.Int).Mod(big.NewInt(int64(number)), new(big.Int).Lsh(big.NewInt(1), 64))
		for place := range 8 {
			want := new(big.Int).Rsh(rest, uint(8*place))
			if b[8+place] != byte(want.Uint64()) {
				t.Error(number, place, b)
			}
		}
		wantRead(t, "a number", b, 1, l, impl.SaveOk)
	}
}

// Promise 22: each good list comes back, in each version.
func TestSavesComeBack(t *testing.T) {
	for what, l := range goodValueLists() {
		for version := 1; version <= lastVersion; version++ {
			b, good := impl.WriteSave(version, l)
			back, again, code := impl.ReadSave(b)
			if !good || back != version || !alike(again, l) || code != impl.SaveOk {
				t.Fatal(what, version, l, back, again, code)
			}
		}
	}
	for seed := range 600 {
		next := coinRow(seed + 22000)
		l := coinSaved(next, next(mostFields+1))
		version := 1 + next(lastVersion)
		wantSlowWrite(t, "coins", version, l)
		b, _ := impl.WriteSave(version, l)
		wantRead(t, "coins", b, version, l, impl.SaveOk)
	}
}

// coinSaved gives good values out of coins.
func coinSaved(next func(int) int, many int) []impl.Value {
	byName := map[string]impl.Value{}
	for range many {
		name := string(coinBytes(next, 1, "AZaz_")) + string(coinBytes(next, next(4), "a_9")) + strings.Repeat("q", coinOf(next, []int{0, 0, 0, 16}))
		text := string(coinBytes(next, coinOf(next, []int{0, 0, 1, 5, 99, 100}), "xy\x00\xffSAVE"))
		byName[name] = value(name, coinOf(next, spreadOfNumbers()), text)
	}
	var out []impl.Value
	for _, name := range slices.Sorted(maps.Keys(byName)) {
		out = append(out, byName[name])
	}
	return out
}

// Promise 22: each byte of a save is made each other one.
func TestOneByteChangedIsTold(t *testing.T) {
	for what, l := range map[string][]impl.Value{
		"no value": nil,
		"two":      valuesOf("a=-5:text b=7"),
		"greatest": greatestValues(),
	} {
		save, _ := impl.WriteSave(2, l)
		for at := range save {
			want := impl.SaveSum
			if at < 4 {
				want = impl.SaveMark
			}
			for by := 1; by < 256; by++ {
				if what == "greatest" && by&(by-1) != 0 && by != 255 {
					continue
				}
				save[at] ^= byte(by)
				if version, values, code := impl.ReadSave(save); version != 0 || values != nil || code != want {
					t.Fatal(what, at, by, version, values, code)
				}
				if values, code := impl.LoadSave(save, nil); values != nil || code != want {
					t.Fatal(what, at, by, values, code)
				}
				save[at] ^= byte(by)
			}
		}
		wantRead(t, what, save, 2, l, impl.SaveOk)
	}
}

// Two bytes that change places, one that is lost and one that is put in are told, too.
func TestBytesMovedAreTold(t *testing.T) {
	save, _ := impl.WriteSave(2, valuesOf("a=-5:text b=770:xyz"))
	for at := range save {
		lost := slices.Delete(bytes.Clone(save), at, at+1)
		if _, _, code := impl.ReadSave(lost); code == impl.SaveOk {
			t.Error("lost", at)
		}
		wantSlowRead(t, "lost", lost)
		for _, b := range []byte{0, 1, save[at], 255} {
			more := slices.Insert(bytes.Clone(save), at, b)
			if _, _, code := impl.ReadSave(more); code == impl.SaveOk {
				t.Error("put in", at)
			}
			wantSlowRead(t, "put in", more)
		}
		for other := range at {
			moved := bytes.Clone(save)
			moved[at], moved[other] = moved[other], moved[at]
			wantSlowRead(t, "changed about", moved)
		}
	}
}

func TestTooFewBytes(t *testing.T) {
	save, _ := impl.WriteSave(2, valuesOf("a=-5:text"))
	for many := range 10 {
		wantRefused(t, "the beginning of a save", save[:many], impl.SaveShort)
		wantRefused(t, "noughts", make([]byte, many), impl.SaveShort)
		wantRefused(t, "with another mark", append([]byte("save")[:min(many, 4)], make([]byte, max(0, many-4))...), impl.SaveShort)
		if many >= 4 {
			wantRefused(t, "with its digest", sealed(save[:many-4]), impl.SaveShort)
		}
	}
	wantRefused(t, "ten noughts", make([]byte, 10), impl.SaveMark)
	wantRefused(t, "ten of a save", save[:10], impl.SaveSum)
	wantRefused(t, "eleven of a save", save[:11], impl.SaveSum)
	wantRead(t, "ten", sealedSave(1, 0), 1, nil, impl.SaveOk)
	wantRefused(t, "ten, of a value", sealedSave(1, 1), impl.SaveShort)
	wantRefused(t, "eleven", sealedSave(1, 0, 0), impl.SaveForm)
	wantRefused(t, "eleven, of a value", sealedSave(1, 1, 0), impl.SaveShort)
}

// wideSave gives a save of so many bytes with a right digest, whose values are all there, but have no names.
func wideSave(many int) []byte {
	var l []impl.Value
	for left := many - 10; left > 0; left -= 10 + len(l[len(l)-1].Text) {
		text := min(left-10, 255)
		// No fewer bytes may be left than an empty value takes.
		if behind := left - 10 - text; within(1, behind, 9) {
			text -= 10
		}
		l = append(l, value("", 0, strings.Repeat("x", text)))
	}
	return packedSave(1, l)
}

func TestTooManyBytes(t *testing.T) {
	for _, many := range []int{mostSave - 1, mostSave, mostSave + 1, mostSave + 2, 5000, 100000} {
		over := many > mostSave
		told := func(within int) int {
			if over {
				return impl.SaveForm
			}
			return within
		}
		wantRefused(t, "noughts", make([]byte, many), told(impl.SaveMark))
		wantRefused(t, "no digest", append([]byte("SAVE"), make([]byte, many-4)...), told(impl.SaveSum))
		content := append([]byte{1, 255}, make([]byte, many-10)...)
		wantRefused(t, "bytes left", sealedSave(content...), impl.SaveForm)
		content[1], content[2] = 1, 255
		content[2+255+1+8] = 255
		wantRefused(t, "still bytes left", sealedSave(content...), impl.SaveForm)
		for at := range content[2:] {
			content[2+at] = 255
		}
		content[1] = 255
		wantRefused(t, "values lack", sealedSave(content...), told(impl.SaveShort))
		content[0] = 251
		wantRefused(t, "values lack, of no version", sealedSave(content...), told(impl.SaveShort))
	}
	for _, many := range []int{20, 285, 286, 294, 295, 2000, mostSave - 1, mostSave, mostSave + 1} {
		b := wideSave(many)
		if len(b) != many {
			t.Fatal(many, len(b))
		}
		wantRefused(t, "values without names", b, impl.SaveForm)
		if many <= mostSave {
			wantRefused(t, "one value more lacks", resealed(b, 5, b[5]+1), impl.SaveShort)
		}
	}
	wantRead(t, "as many as good values make", packedSave(3, greatestValues()), 3, greatestValues(), impl.SaveOk)
}

// A save is cut at each place, and one byte more is laid behind: both with a digest that is right.
func TestBytesBehindARightDigest(t *testing.T) {
	for what, l := range map[string][]impl.Value{
		"one":      valuesOf("a=-5:text"),
		"two":      valuesOf("a=-5:text b=7"),
		"noughts":  valuesOf("a b"),
		"greatest": greatestValues()[:3],
	} {
		save := packedSave(2, l)
		content := save[:len(save)-4]
		for many := range content {
			wantRefused(t, what+", cut", sealed(content[:many]), impl.SaveShort)
		}
		wantRead(t, what, sealed(content), 2, l, impl.SaveOk)
		for _, more := range []byte{0, 1, 255} {
			wantRefused(t, what+", one more", sealed(append(bytes.Clone(content), more)), impl.SaveForm)
		}
		wantRefused(t, what+", its digest more", sealed(save), impl.SaveForm)
		wantRefused(t, what+", one value more", sealed(append(bytes.Clone(content), packed(value("z", 1, ""))...)), impl.SaveForm)
		many := byte(len(l))
		for count := range 256 {
			switch b := resealed(save, 5, byte(count)); {
			case byte(count) < many:
				wantRefused(t, what+", said to be fewer", b, impl.SaveForm)
			case byte(count) > many:
				wantRefused(t, what+", said to be more", b, impl.SaveShort)
			}
		}
	}
	wantRefused(t, "none, said to be one", sealedSave(2, 1), impl.SaveShort)
	wantRefused(t, "none, said to be 255", sealedSave(2, 255), impl.SaveShort)
}

// Lengths that reach to the digest, into it and behind it.
func TestLengthsThatReachTooFar(t *testing.T) {
	save := packedSave(2, valuesOf("abc=770:text"))
	const nameAt, textAt = 6, 18
	if save[nameAt] != 3 || save[textAt] != 4 || len(save) != textAt+1+4+4 {
		t.Fatal(save)
	}
	for many := range 256 {
		b := resealed(save, textAt, byte(many))
		switch {
		case many < 4:
			wantRefused(t, "a text too short", b, impl.SaveForm)
		case many == 4:
			wantRead(t, "the text", b, 2, valuesOf("abc=770:text"), impl.SaveOk)
		default:
			wantRefused(t, "a text too far", b, impl.SaveShort)
		}
		b = resealed(save, nameAt, byte(many))
		if wantSlowRead(t, "another name", b); many >= 8 {
			// Behind the name eight bytes of number and one of length must have room.
			wantRefused(t, "a name too far", b, impl.SaveShort)
		}
	}
	// A name that ends just where room for a number is left, for the text's length, and for none.
	for _, c := range []struct {
		behind int
		code   int
	}{{0, impl.SaveShort}, {1, impl.SaveShort}, {7, impl.SaveShort}, {8, impl.SaveShort}, {9, impl.SaveOk}, {10, impl.SaveForm}} {
		content := append([]byte{2, 1, 3, 'a', 'b', 'c'}, make([]byte, c.behind)...)
		if c.code != impl.SaveOk {
			wantRefused(t, "so many behind a name", sealedSave(content...), c.code)
			continue
		}
		wantRead(t, "so many behind a name", sealedSave(content...), 2, valuesOf("abc"), c.code)
	}
	wantRefused(t, "a name to the digest's end", sealedSave(2, 1, 7, 'a', 'b', 'c'), impl.SaveShort)
	wantRefused(t, "a name to the digest", sealedSave(2, 1, 3, 'a', 'b', 'c'), impl.SaveShort)
	wantRefused(t, "a name behind the digest", sealedSave(2, 1, 8, 'a', 'b', 'c'), impl.SaveShort)
}

func TestVersionsOfSaves(t *testing.T) {
	for version := range 256 {
		for what, l := range map[string][]impl.Value{"no value": nil, "two": valuesOf("a=-5:text b=7")} {
			b := packedSave(version, l)
			if !within(1, version, lastVersion) {
				wantRefused(t, what, b, impl.SaveForm)
				continue
			}
			wantRead(t, what, b, version, l, impl.SaveOk)
			if version > versionNow {
				for _, changes := range [][]impl.Change{nil, changesOf("1:a+1"), changesOf("1:a>b"), changesOf("0:a+1")} {
					wantLoad(t, what, b, changes, nil, impl.SaveNew)
				}
				continue
			}
			wantLoad(t, what, b, nil, l, impl.SaveOk)
		}
	}
}

// Values that are all there, but not good.
func TestSavesOfValuesThatAreNotGood(t *testing.T) {
	whole := 0
	for what, l := range badValueLists() {
		// Longer ones don't fit into a save: their lengths would be cut.
		if len(l) > 255 || slices.ContainsFunc(l, func(v impl.Value) bool { return len(v.Text) > 255 || len(v.Name) > 255 }) {
			continue
		}
		whole++
		wantRefused(t, what, packedSave(1, l), impl.SaveForm)
		wantRefused(t, what+", of no version", packedSave(0, l), impl.SaveForm)
	}
	if whole < 20 {
		t.Error(whole)
	}
	wantRefused(t, "255 of them", packedSave(1, slices.Repeat(valuesOf("a"), 255)), impl.SaveForm)
	wantRefused(t, "names of 255 bytes", packedSave(1, valuesOf(strings.Repeat("a", 255))), impl.SaveForm)
	wantRefused(t, "a text of 255 bytes", packedSave(1, []impl.Value{value("a", 0, strings.Repeat("x", 255))}), impl.SaveForm)
	wantRead(t, "a text of 100 bytes", packedSave(1, []impl.Value{value("a", 0, strings.Repeat("x", 100))}), 1, []impl.Value{value("a", 0, strings.Repeat("x", 100))}, impl.SaveOk)
}

// Of several faults the one that is looked for first is told.
func TestWhichFaultOfASaveIsTold(t *testing.T) {
	long := bytes.Repeat([]byte{7}, mostSave+1)
	save := packedSave(2, valuesOf("a=-5:text"))
	other := func(b []byte, at int) []byte {
		out := bytes.Clone(b)
		out[(at+len(b))%len(b)] ^= 16
		return out
	}
	cut := sealedSave(2, 1, 1, 'a')
	for _, c := range []struct {
		what string
		b    []byte
		code int
	}{
		{"too long, another mark and digest", long, impl.SaveForm},
		{"too long, another digest", append([]byte("SAVE"), long[4:]...), impl.SaveForm},
		{"too long, and a value lacks", sealedSave(append([]byte{1, 255}, bytes.Repeat([]byte{255}, mostSave)...)...), impl.SaveForm},
		{"too short, another mark", []byte("saves"), impl.SaveShort},
		{"too short, another digest", []byte("SAVE\x01\x00\x00\x00\x00"), impl.SaveShort},
		{"another mark and digest", other(other(save, 0), -1), impl.SaveMark},
		{"another mark, its digest right", resealed(save, 3, 'e'), impl.SaveMark},
		{"another mark, of no version", resealed(packedSave(0, nil), 0, 's'), impl.SaveMark},
		{"another mark, a value lacks", resealed(cut, 0, 's'), impl.SaveMark},
		{"another digest, of no version", other(packedSave(0, nil), -1), impl.SaveSum},
		{"another digest, a value lacks", other(cut, -1), impl.SaveSum},
		{"another digest, bytes left", other(sealedSave(1, 0, 0), -1), impl.SaveSum},
		{"another digest, values not good", other(packedSave(1, valuesOf("a a")), -1), impl.SaveSum},
		{"another digest, a later version", other(packedSave(4, nil), -1), impl.SaveSum},
		{"a value lacks, of no version", resealed(cut, 4, 0), impl.SaveShort},
		{"a value lacks, of a version beyond", resealed(cut, 4, 251), impl.SaveShort},
		{"a value lacks, of a later version", resealed(cut, 4, 4), impl.SaveShort},
		{"a value lacks, others not good", sealedSave(append(append([]byte{1, 3}, packed(value("b", 0, ""))...), packed(value("a", 0, ""))...)...), impl.SaveShort},
		{"a value lacks, one with no name", sealedSave(append([]byte{1, 2}, packed(value("", 0, ""))...)...), impl.SaveShort},
		{"a value lacks, one with too long a text", sealedSave(append([]byte{1, 2}, packed(value("a", 0, strings.Repeat("x", 101)))...)...), impl.SaveShort},
		{"too many values, and one more lacks", resealed(packedSave(1, manyValues(31)), 5, 32), impl.SaveShort},
		{"of no version, and bytes left", sealedSave(0, 0, 0), impl.SaveForm},
		{"of a later version, and bytes left", sealedSave(4, 0, 0), impl.SaveForm},
		{"of a later version, values not good", packedSave(4, valuesOf("a a")), impl.SaveForm},
	} {
		wantRefused(t, c.what, c.b, c.code)
		wantSlowRead(t, c.what, c.b)
	}
}

// coinSave gives bytes that are a save, or nearly one: the digest is right most of the times.
func coinSave(next func(int) int) []byte {
	save := packedSave(coinOf(next, []int{0, 1, 2, 3, 4, 250, 251}), coinSaved(next, next(5)))
	content := bytes.Clone(save[:len(save)-4])
	for range next(3) {
		at := 4 + next(len(content)-4)
		switch next(6) {
		case 0:
			content[at] = byte(next(256))
		case 1:
			content[at]++
		case 2:
			content[at]--
		case 3:
			content = slices.Insert(content, at, byte(next(256)))
		case 4:
			content = content[:at]
		case 5:
			content = append(content, packed(value(coinOf(next, []string{"", "a", "zz"}), 5, ""))...)
		}
		if len(content) < 6 {
			break
		}
	}
	if b := sealed(content); next(8) > 0 {
		return b
	}
	return append(content, coinBytes(next, next(6), "\x00\x01\xff")...)
}

func TestReadSaveOfCoins(t *testing.T) {
	codes := map[string]int{}
	for seed := range 6000 {
		next := coinRow(seed + 22100)
		b := coinSave(next)
		_, _, code := slowRead(b)
		codes[fmt.Sprint("code ", code)]++
		wantSlowRead(t, "coins", b)
		wantSlowLoad(t, "coins", b, coinChanges(next, next(4)))
	}
	for seed := range 3000 {
		next := coinRow(seed + 22200)
		// Rows of few small bytes, which often read as values.
		b := sealedSave(append([]byte{byte(next(4)), byte(next(4))}, coinBytes(next, next(45), "\x00\x00\x00\x00\x00\x01\x01\x02ab")...)...)
		_, _, code := slowRead(b)
		codes[fmt.Sprint("small ", code)]++
		wantSlowRead(t, "small bytes", b)
	}
	for kind, least := range map[string]int{"code 0": 1000, "code 1": 500, "code 3": 200, "code 5": 500, "small 0": 5, "small 1": 500, "small 5": 500} {
		if codes[kind] < least {
			t.Error(codes)
		}
	}
}

// What was read stays what it was when the bytes are written over, and the bytes of two saves are two.
func TestSavesAreTheirOwn(t *testing.T) {
	l := valuesOf("abc=770:text b=1:more")
	save, _ := impl.WriteSave(2, l)
	again, _ := impl.WriteSave(2, l)
	_, read, _ := impl.ReadSave(save)
	loaded, _ := impl.LoadSave(save, nil)
	for i := range save {
		save[i] = 'x'
	}
	if !alike(read, l) || !alike(loaded, l) {
		t.Error(read, loaded)
	}
	wantRead(t, "the other one", again, 2, l, impl.SaveOk)
	moved, _ := impl.MigrateSave(1, l, nil)
	l[0] = value("z", 0, "")
	if moved[0] != value("abc", 770, "text") {
		t.Error(moved)
	}
}

func goodChangeLists() map[string][]impl.Change {
	return map[string][]impl.Change{
		"none":                     nil,
		"one of each kind":         changesOf("1:a>b 1:a+1 1:a*2 1:a! 1:a=3"),
		"from the last version":    changesOf("2:a+1"),
		"that stay, and rise":      changesOf("1:a+1 1:a+1 2:a+1 2:a+1"),
		"as many as may be":        slices.Repeat(changesOf("1:a+1"), mostFields),
		"one fewer":                slices.Repeat(changesOf("2:a+1"), mostFields-1),
		"the greatest By":          changesOf("1:a+1000000 1:a*1000000 1:a=1000000"),
		"the least By":             changesOf("1:a+-1000000 1:a*-1000000 1:a=-1000000"),
		"a By of 0":                changesOf("1:a+0 1:a*0 1:a=0"),
		"called what it is called": changesOf("1:a>a"),
		"the greatest names":       changesOf("1:" + longName + ">" + longName),
		"names of any kind":        changesOf("1:_>A9 2:Z_z!"),
	}
}

func badChangeLists() map[string][]impl.Change {
	one := func(from int, kind int, name string, to string, by int) []impl.Change {
		return []impl.Change{{From: from, Kind: kind, Name: name, To: to, By: by}}
	}
	out := map[string][]impl.Change{
		"one too many":           slices.Repeat(changesOf("1:a+1"), mostFields+1),
		"far too many":           slices.Repeat(changesOf("1:a+1"), 1000),
		"that fall":              changesOf("2:a+1 1:a+1"),
		"the last one falls":     changesOf("1:a+1 2:a+1 1:a+1"),
		"from 0":                 changesOf("0:a+1"),
		"from today's version":   changesOf("3:a+1"),
		"from a later version":   changesOf("4:a+1"),
		"from below 0":           changesOf("-1:a+1"),
		"the last from today's":  changesOf("1:a+1 2:a+1 3:a+1"),
		"the zero change":        {{}},
		"no kind":                one(1, 0, "a", "", 0),
		"no kind, with To":       one(1, 0, "a", "b", 0),
		"a kind beyond":          one(1, 6, "a", "", 0),
		"a kind below":           one(1, -1, "a", "", 0),
		"a name without To":      one(1, impl.ChangeName, "a", "", 0),
		"a name to none":         one(1, impl.ChangeName, "a", "1", 0),
		"a name too long":        one(1, impl.ChangeName, "a", longName+"z", 0),
		"a name with By":         one(1, impl.ChangeName, "a", "b", 1),
		"a name with By below 0": one(1, impl.ChangeName, "a", "b", -1),
		"a sum with To":          one(1, impl.ChangeAdd, "a", "b", 1),
		"a product with To":      one(1, impl.ChangeTimes, "a", "b", 1),
		"a drop with To":         one(1, impl.ChangeDrop, "a", "b", 0),
		"a drop with By":         one(1, impl.ChangeDrop, "a", "", 1),
		"a drop with By below 0": one(1, impl.ChangeDrop, "a", "", -1),
		"a new one with To":      one(1, impl.ChangeNew, "a", "b", 1),
		"the last one":           append(changesOf("1:a+1 1:b*2 2:c!"), one(2, impl.ChangeNew, "d", "d", 0)...),
	}
	for _, kind := range []int{impl.ChangeAdd, impl.ChangeTimes, impl.ChangeNew} {
		for _, by := range append(farNumbers(), mostBy+1, -mostBy-1) {
			out[fmt.Sprint("By beyond ", kind, by)] = one(2, kind, "a", "", by)
		}
	}
	for kind := 1; kind <= 5; kind++ {
		for _, name := range badNames() {
			c := one(1, kind, name, "", 0)
			if kind == impl.ChangeName {
				c[0].To = "b"
			}
			out[fmt.Sprintf("no name %d %.30q", kind, name)] = c
		}
	}
	return out
}

func TestGoodChanges(t *testing.T) {
	l := valuesOf("a=2:x b")
	save := packedSave(1, l)
	for what, changes := range goodChangeLists() {
		wantGoodChanges(t, what, changes, true)
		for version := range 5 {
			wantSlowMigrate(t, what, version, l, changes)
			wantSlowLoad(t, what, packedSave(version, l), changes)
		}
	}
	for what, changes := range badChangeLists() {
		wantGoodChanges(t, what, changes, false)
		wantMigrate(t, what, 1, l, changes, nil, false)
		wantMigrate(t, what, versionNow, l, changes, nil, false)
		wantMigrate(t, what, 1, nil, changes, nil, false)
		wantLoad(t, what, save, changes, nil, impl.SaveMove)
		wantLoad(t, what, packedSave(versionNow, nil), changes, nil, impl.SaveMove)
		wantLoad(t, what, packedSave(versionNow+1, l), changes, nil, impl.SaveNew)
	}
}

// One thing of good changes is made another, at each place.
func TestGoodChangesWithOneThingChanged(t *testing.T) {
	base := changesOf("1:a>b 1:a+1 1:a*2 1:a! 1:a=3 2:a>b 2:a+1 2:a*2 2:a! 2:a=3")
	ask := func(what string, at int, change func(c *impl.Change)) {
		t.Helper()
		l := withChange(base, at, change)
		wantGoodChanges(t, what, l, slowGoodChanges(l))
		wantSlowMigrate(t, what, 1, valuesOf("a=2:x c"), l)
	}
	for at := range base {
		for _, n := range append(farNumbers(), -mostBy-1, -mostBy, -1, 0, 1, 2, 3, 4, 5, 6, 7, 256, mostBy, mostBy+1) {
			ask("From", at, func(c *impl.Change) { c.From = n })
			ask("Kind", at, func(c *impl.Change) { c.Kind = n })
			ask("By", at, func(c *impl.Change) { c.By = n })
		}
		for _, name := range append(badNames(), "a", "b", "c", longName) {
			ask("Name", at, func(c *impl.Change) { c.Name = name })
			ask("To", at, func(c *impl.Change) { c.To = name })
		}
	}
}

// migrationRow tells of values and changes, in words, what they make; "no" where they are refused.
type migrationRow struct {
	what    string
	version int
	l       string
	changes string
	want    string
}

// oneByOne holds changes that stand alone, or nearly.
func oneByOne() []migrationRow {
	return []migrationRow{
		{"nothing at all", 1, "", "", ""},
		{"no change", 1, "a=1:x b=2", "", "a=1:x b=2"},
		{"called otherwise", 1, "a=1:x b=2:y", "1:b>c", "a=1:x c=2:y"},
		{"called otherwise, further on", 1, "a=1:x b=2 c=3", "1:a>bb", "b=2 bb=1:x c=3"},
		{"called otherwise, to the end", 1, "a=1:x b=2 c=3", "1:a>z", "b=2 c=3 z=1:x"},
		{"called otherwise, further ahead", 1, "b=1 c=2 d=3:x", "1:d>bb", "b=1 bb=3:x c=2"},
		{"called otherwise, to the beginning", 1, "b=1 c=2 d=3:x", "1:d>A", "A=3:x b=1 c=2"},
		{"called otherwise, alone", 1, "b=1:x", "1:b>a", "a=1:x"},
		{"called what another one is", 1, "a=1 b=2", "1:a>b", "no"},
		{"called what it is called itself", 1, "a=1 b=2", "1:a>a", "no"},
		{"what is not there is called what is", 1, "a=1 b=2", "1:c>a", "a=1 b=2"},
		{"what is not there is called otherwise", 1, "a=1 b=2", "1:c>d", "a=1 b=2"},
		{"what is not there is called itself", 1, "a=1 b=2", "1:c>c", "a=1 b=2"},
		{"of no value", 1, "", "1:a>b 1:a+1 1:a*2 1:a!", ""},
		{"more", 1, "a=1:x b=2:y", "1:b+5", "a=1:x b=7:y"},
		{"less", 1, "a=1:x b=2:y", "1:a+-5", "a=-4:x b=2:y"},
		{"times", 1, "a=1:x b=2:y", "1:b*-3", "a=1:x b=-6:y"},
		{"times 0", 1, "a=1:x b=2:y", "1:b*0", "a=1:x b=0:y"},
		{"goes", 1, "a=1:x b=2:y c", "1:b!", "a=1:x c"},
		{"the first goes", 1, "a=1:x b=2:y", "1:a!", "b=2:y"},
		{"the last goes", 1, "a=1:x b=2:y", "1:b!", "a=1:x"},
		{"all go", 1, "a=1:x b=2:y", "1:a! 1:b!", ""},
		{"a new one", 1, "a=1:x c=2:y", "1:b=5", "a=1:x b=5 c=2:y"},
		{"a new one, first", 1, "b", "1:a=-5", "a=-5 b"},
		{"a new one, last", 1, "b", "1:c=0", "b c"},
		{"a new one alone", 1, "", "1:c=1000000", "c=1000000"},
		{"a new one that is there", 1, "a=1:x b=2:y", "1:b=5", "a=1:x b=2:y"},
		{"the same new one twice", 1, "", "1:b=5 1:b=6", "b=5"},
	}
}

// oneBehindTheOther holds changes that meet what others made, and such as are passed over.
func oneBehindTheOther() []migrationRow {
	return []migrationRow{
		{"one behind the other", 1, "a=1:x", "1:a+2 1:a*5 2:a+-1", "a=14:x"},
		{"the other way about", 1, "a=1:x", "1:a*5 1:a+2 2:a+-1", "a=6:x"},
		{"a name that was given before", 1, "a=1:x", "1:a>b 1:b+1 2:b>a 2:a*4", "a=8:x"},
		{"a name that was given away", 1, "a=1:x", "1:a>b 1:a+1", "b=1:x"},
		{"a name that is free again", 1, "a=1:x b=2", "1:b! 1:a>b", "b=1:x"},
		{"changed about", 1, "a=1:x b=2:y", "1:a>c 1:b>a 1:c>b", "a=2:y b=1:x"},
		{"called what is made before", 1, "a=1", "1:b=3 1:a>b", "no"},
		{"called what is made behind", 1, "a=1", "1:a>b 1:b=3", "b=1"},
		{"what is made is changed", 1, "", "1:b=3 1:b+1 1:b>c 2:c*2", "c=8"},
		{"what is made goes", 1, "a", "1:b=3 1:b!", "a"},
		{"what goes is made again", 1, "a=4:x", "1:a! 1:a=3", "a=3"},
		{"what goes can't be changed", 1, "a=4:x", "1:a! 1:a+1 1:a>b", ""},
		{"from the first version", 1, "a=1", "1:a+10 2:a+100", "a=111"},
		{"from the second version", 2, "a=1", "1:a+10 2:a+100", "a=101"},
		{"from today's version", 3, "a=1", "1:a+10 2:a+100", "a=1"},
		{"passed over, though it could not be", 2, "a=1 b", "1:a>b 2:a+100", "a=101 b"},
		{"all passed over", 3, "a=1 b", "1:a>b 2:a>b", "a=1 b"},
		{"no version", 0, "a=1", "1:a+10", "no"},
		{"a version below 0", -1, "a=1", "", "no"},
		{"a later version", 4, "a=1", "1:a+10", "no"},
		{"a far version", 250, "a=1", "", "no"},
		{"a fault behind others", 1, "a=1 b", "1:a+1 1:b! 2:a>a", "no"},
		{"a fault ahead of others", 1, "a=1 b", "1:a>b 1:b! 1:a>b", "no"},
	}
}

func TestMigrationsTold(t *testing.T) {
	for _, c := range append(oneByOne(), oneBehindTheOther()...) {
		l, changes := valuesOf(c.l), changesOf(c.changes)
		if c.want == "no" {
			wantMigrate(t, c.what, c.version, l, changes, nil, false)
		} else {
			wantMigrate(t, c.what, c.version, l, changes, valuesOf(c.want), true)
		}
		wantSlowMigrate(t, c.what, c.version, l, changes)
	}
	for _, version := range saveVersions() {
		wantSlowMigrate(t, "a version", version, valuesOf("a=1"), changesOf("1:a+10 2:a+100"))
	}
}

// Each Kind alone, on each of three values and on names between.
func TestEachChangeAtEachPlace(t *testing.T) {
	l := valuesOf("b=1:x d=2:y f=3:z")
	for _, name := range strings.Split("abcdefg", "") {
		for kind := 1; kind <= 5; kind++ {
			for from := 1; from <= 2; from++ {
				for version := 1; version <= 3; version++ {
					c := impl.Change{From: from, Kind: kind, Name: name, By: 7}
					if kind == impl.ChangeDrop {
						c.By = 0
					}
					if kind != impl.ChangeName {
						wantSlowMigrate(t, "one change", version, l, []impl.Change{c})
						continue
					}
					for _, to := range strings.Split("abcdefg", "") {
						c.To, c.By = to, 0
						wantSlowMigrate(t, "another name", version, l, []impl.Change{c})
					}
				}
			}
		}
	}
}

// numberRow tells what a change makes of a number.
type numberRow struct {
	kind   int
	number int
	by     int
	want   int
	good   bool
}

func sumsTold() []numberRow {
	return []numberRow{
		{impl.ChangeAdd, farMoved - 1, 1, farMoved, true},
		{impl.ChangeAdd, farMoved, 1, 0, false},
		{impl.ChangeAdd, farMoved, 0, farMoved, true},
		{impl.ChangeAdd, farMoved + 1, 0, 0, false},
		{impl.ChangeAdd, farMoved + 1, -1, farMoved, true},
		{impl.ChangeAdd, farMoved + 1, 1, 0, false},
		{impl.ChangeAdd, farMoved - mostBy, mostBy, farMoved, true},
		{impl.ChangeAdd, farMoved + mostBy, -mostBy, farMoved, true},
		{impl.ChangeAdd, farMoved + mostBy + 1, -mostBy, 0, false},
		{impl.ChangeAdd, -farMoved + 1, -1, -farMoved, true},
		{impl.ChangeAdd, -farMoved, -1, 0, false},
		{impl.ChangeAdd, -farMoved, 0, -farMoved, true},
		{impl.ChangeAdd, -farMoved - 1, 0, 0, false},
		{impl.ChangeAdd, -farMoved - 1, 1, -farMoved, true},
		{impl.ChangeAdd, -farMoved - mostBy, mostBy, -farMoved, true},
		{impl.ChangeAdd, math.MaxInt, 1, 0, false},
		{impl.ChangeAdd, math.MaxInt, mostBy, 0, false},
		{impl.ChangeAdd, math.MinInt, -1, 0, false},
		{impl.ChangeAdd, math.MinInt, -mostBy, 0, false},
	}
}

func productsTold() []numberRow {
	return []numberRow{
		{impl.ChangeTimes, farMoved, 1, farMoved, true},
		{impl.ChangeTimes, farMoved, -1, -farMoved, true},
		{impl.ChangeTimes, -farMoved, -1, farMoved, true},
		{impl.ChangeTimes, farMoved, 2, 0, false},
		{impl.ChangeTimes, farMoved + 1, 1, 0, false},
		{impl.ChangeTimes, -farMoved - 1, -1, 0, false},
		{impl.ChangeTimes, farMoved / 2, 2, farMoved, true},
		{impl.ChangeTimes, farMoved/2 + 1, 2, 0, false},
		{impl.ChangeTimes, -farMoved / 2, 2, -farMoved, true},
		{impl.ChangeTimes, -farMoved/2 - 1, 2, 0, false},
		{impl.ChangeTimes, farMoved / 3, 3, farMoved - 1, true},
		{impl.ChangeTimes, farMoved/3 + 1, 3, 0, false},
		{impl.ChangeTimes, farMoved / 3, -3, 1 - farMoved, true},
		{impl.ChangeTimes, -farMoved/3 - 1, -3, 0, false},
		{impl.ChangeTimes, farMoved / mostBy, mostBy, farMoved, true},
		{impl.ChangeTimes, farMoved / mostBy, -mostBy, -farMoved, true},
		{impl.ChangeTimes, farMoved/mostBy + 1, mostBy, 0, false},
		{impl.ChangeTimes, -farMoved/mostBy - 1, mostBy, 0, false},
		{impl.ChangeTimes, 1 << 62, 4, 0, false},
		{impl.ChangeTimes, 1 << 60, 16, 0, false},
		{impl.ChangeTimes, 1<<44 + 1, 1 << 19, 0, false},
		{impl.ChangeTimes, math.MinInt, 2, 0, false},
		{impl.ChangeTimes, math.MinInt, -1, 0, false},
		{impl.ChangeTimes, math.MinInt, 1, 0, false},
		{impl.ChangeTimes, math.MaxInt, 1, 0, false},
		{impl.ChangeTimes, math.MaxInt, 0, 0, true},
		{impl.ChangeTimes, math.MinInt, 0, 0, true},
		{impl.ChangeTimes, 0, mostBy, 0, true},
		{impl.ChangeTimes, -7, 1, -7, true},
	}
}

// Numbers at and beyond what a change may make, and such as leave what an int holds.
func TestNumbersThatChange(t *testing.T) {
	for _, c := range append(sumsTold(), productsTold()...) {
		l := []impl.Value{value("a", 5, ""), value("b", c.number, "x")}
		want := []impl.Value{value("a", 5, ""), value("b", c.want, "x")}
		if !c.good {
			want = nil
		}
		changes := []impl.Change{{From: 2, Kind: c.kind, Name: "b", By: c.by}}
		wantMigrate(t, "a number", 1, l, changes, want, c.good)
		wantMigrate(t, "a number that is passed over", 3, l, changes, l, true)
		code := impl.SaveOk
		if !c.good {
			code = impl.SaveMove
		}
		wantLoad(t, "a number", packedSave(2, l), changes, want, code)
	}
}

func TestNumbersOfAllSizesThatChange(t *testing.T) {
	for _, number := range append(spreadOfNumbers(), farMoved/2, farMoved/2+1, farMoved/mostBy, farMoved/mostBy+1) {
		for _, by := range []int{-mostBy, -mostBy + 1, -4096, -3, -2, -1, 0, 1, 2, 3, 7, 65536, mostBy - 1, mostBy} {
			for kind := impl.ChangeAdd; kind <= impl.ChangeTimes; kind++ {
				wantSlowMigrate(t, "numbers", 1, []impl.Value{value("a", number, "")}, []impl.Change{{From: 1, Kind: kind, Name: "a", By: by}})
			}
		}
	}
}

// What no change makes may be as great as it is.
func TestNumbersThatNoChangeMakes(t *testing.T) {
	far := []impl.Value{value("a", math.MaxInt, ""), value("b", math.MinInt, "x")}
	moved := []impl.Value{value("b", math.MinInt, "x"), value("c", math.MaxInt, "")}
	wantMigrate(t, "called otherwise", 1, far, changesOf("1:a>c"), moved, true)
	wantMigrate(t, "beside one that goes", 1, far, changesOf("1:a! 1:d+1 1:b=4"), far[1:], true)
	wantMigrate(t, "back on the way", 1, valuesOf("a=1000000000000000"), changesOf("1:a+1 1:a+-1"), nil, false)
}

func TestMigrationsOfAsManyAsMayBe(t *testing.T) {
	full, fewer := manyValues(mostFields), manyValues(mostFields-1)
	wantMigrate(t, "one more", 1, full, changesOf("1:z=1"), nil, false)
	wantMigrate(t, "one more, first", 1, full, changesOf("1:A=1"), nil, false)
	wantMigrate(t, "one that is there", 1, full, changesOf("1:n07=1"), full, true)
	wantMigrate(t, "one more, passed over", 2, full, changesOf("1:z=1"), full, true)
	wantMigrate(t, "one more, dropped behind", 1, full, changesOf("1:z=1 1:n00!"), nil, false)
	wantMigrate(t, "one more, one dropped ahead", 1, full, changesOf("1:n00! 1:z=1"), append(slices.Clone(full[1:]), value("z", 1, "")), true)
	wantMigrate(t, "just as many", 1, fewer, changesOf("1:z=1"), append(slices.Clone(fewer), value("z", 1, "")), true)
	wantMigrate(t, "two more", 1, fewer, changesOf("1:z=1 2:zz=1"), nil, false)
	wantMigrate(t, "the same twice", 1, fewer, changesOf("1:z=1 2:z=1"), append(slices.Clone(fewer), value("z", 1, "")), true)
	wantMigrate(t, "called otherwise", 1, full, changesOf("1:n29>n28"), nil, false)
	moved := append([]impl.Value{value("A", 29, "")}, full[:29]...)
	wantMigrate(t, "called otherwise", 1, full, changesOf("1:n29>A"), moved, true)
	var all []impl.Change
	for i, name := range manyNames(mostFields) {
		all = append(all, impl.Change{From: 1 + i/15, Kind: impl.ChangeNew, Name: name, By: i})
	}
	wantMigrate(t, "all new", 1, nil, all, full, true)
	wantMigrate(t, "half of them new", 2, nil, all, full[15:], true)
	wantMigrate(t, "beside one that is there", 1, valuesOf("a"), all, nil, false)
}

// coinChanges gives good changes out of coins, of few names.
func coinChanges(next func(int) int, many int) []impl.Change {
	var out []impl.Change
	for range many {
		c := impl.Change{From: 1 + next(2), Kind: 1 + next(5), Name: coinOf(next, savedNames())}
		switch c.Kind {
		case impl.ChangeName:
			c.To = coinOf(next, savedNames())
		case impl.ChangeAdd, impl.ChangeTimes, impl.ChangeNew:
			c.By = coinOf(next, []int{-mostBy, -2, -1, 0, 1, 2, 3, 10, 1000, mostBy})
		}
		out = append(out, c)
	}
	slices.SortStableFunc(out, func(a impl.Change, b impl.Change) int { return a.From - b.From })
	return out
}

func savedNames() []string { return strings.Split("A B Aa _ a aa ab b c z", " ") }

// coinNamed gives good values of few names.
func coinNamed(next func(int) int) []impl.Value {
	var out []impl.Value
	for _, name := range slices.Sorted(slices.Values(savedNames())) {
		if next(2) == 0 {
			number := coinOf(next, []int{0, 1, -3, 7, 1000, farMoved / 2, -farMoved / mostBy, farMoved, farMoved + 1, math.MinInt})
			out = append(out, value(name, number, string(coinBytes(next, next(3), "xy"))))
		}
	}
	return out
}

// Promise 22: what two steps make is what one makes, wherever the changes are cut.
func TestAMigrationInTwoStepsIsOne(t *testing.T) {
	goods, bads := 0, 0
	for seed := range 2500 {
		next := coinRow(seed + 22300)
		l, changes, version := coinNamed(next), coinChanges(next, next(12)), 1+next(3)
		wantSlowMigrate(t, "coins", version, l, changes)
		whole, good := impl.MigrateSave(version, l, changes)
		if good {
			goods++
		} else {
			bads++
		}
		for cut := range len(changes) + 1 {
			half, first := impl.MigrateSave(version, l, changes[:cut])
			rest, second := impl.MigrateSave(version, half, changes[cut:])
			if good != (first && second) || good && !alike(rest, whole) {
				t.Fatal(version, l, changes, cut, whole, good, half, first, rest, second)
			}
		}
		// Version by version: those from the first one, and then what is of the second one by all of them.
		behind := slices.IndexFunc(changes, func(c impl.Change) bool { return c.From > 1 })
		if behind < 0 {
			behind = len(changes)
		}
		half, first := impl.MigrateSave(version, l, changes[:behind])
		rest, second := impl.MigrateSave(max(version, 2), half, changes)
		if good != (first && second) || good && !alike(rest, whole) {
			t.Fatal(version, l, changes, whole, good, half, first, rest, second)
		}
	}
	if goods < 700 || bads < 300 {
		t.Error(goods, bads)
	}
}

// A save that is migrated, written as of the next version and loaded again is the same as one that is loaded at once.
func TestSavesThroughTheVersions(t *testing.T) {
	codes := map[int]int{}
	for seed := range 800 {
		next := coinRow(seed + 22400)
		l, changes := coinNamed(next), coinChanges(next, next(6))
		first, _ := impl.WriteSave(1, l)
		want, code := impl.LoadSave(first, changes)
		codes[code]++
		wantSlowLoad(t, "coins", first, changes)
		ahead := slices.DeleteFunc(slices.Clone(changes), func(c impl.Change) bool { return c.From > 1 })
		half, good := impl.MigrateSave(1, l, ahead)
		if !good {
			if code != impl.SaveMove {
				t.Fatal(l, changes, want, code)
			}
			continue
		}
		second, _ := impl.WriteSave(2, half)
		got, again := impl.LoadSave(second, changes)
		if again != code || !alike(got, want) {
			t.Fatal(l, changes, want, code, got, again)
		}
		if code != impl.SaveOk {
			continue
		}
		third, _ := impl.WriteSave(versionNow, got)
		wantLoad(t, "of today", third, changes, want, impl.SaveOk)
		fourth, _ := impl.WriteSave(versionNow+1, got)
		wantLoad(t, "of tomorrow", fourth, changes, nil, impl.SaveNew)
	}
	if codes[impl.SaveOk] < 300 || codes[impl.SaveMove] < 100 {
		t.Error(codes)
	}
}

func TestLoadsTold(t *testing.T) {
	l := valuesOf("a=5:x b=7")
	for _, c := range []struct {
		what    string
		b       []byte
		changes []impl.Change
		want    string
		code    int
	}{
		{"no change", packedSave(1, l), nil, "a=5:x b=7", impl.SaveOk},
		{"no value", packedSave(1, nil), nil, "", impl.SaveOk},
		{"no value, and a new one", packedSave(2, nil), changesOf("2:a=5"), "a=5", impl.SaveOk},
		{"from the first version", packedSave(1, l), changesOf("1:a+1 2:b>c"), "a=6:x c=7", impl.SaveOk},
		{"from the second version", packedSave(2, l), changesOf("1:a+1 2:b>c"), "a=5:x c=7", impl.SaveOk},
		{"from today's version", packedSave(3, l), changesOf("1:a+1 2:b>c"), "a=5:x b=7", impl.SaveOk},
		{"no byte", nil, nil, "", impl.SaveShort},
		{"another mark", resealed(packedSave(1, l), 1, 'a'), nil, "", impl.SaveMark},
		{"another digest", append(packedSave(1, l), 0), nil, "", impl.SaveSum},
		{"a later version", packedSave(4, l), nil, "", impl.SaveNew},
		{"the last version", packedSave(250, l), nil, "", impl.SaveNew},
		{"a version beyond", packedSave(251, l), nil, "", impl.SaveForm},
		{"values that fall", packedSave(1, valuesOf("b a")), nil, "", impl.SaveForm},
		{"too many bytes", make([]byte, mostSave+1), nil, "", impl.SaveForm},
		{"a name that is taken", packedSave(1, l), changesOf("1:a>b"), "", impl.SaveMove},
		{"a number beyond", packedSave(1, []impl.Value{value("a", farMoved, "")}), changesOf("1:a+1"), "", impl.SaveMove},
		{"too many values", packedSave(1, manyValues(mostFields)), changesOf("1:a=1"), "", impl.SaveMove},
		{"changes that are not good", packedSave(1, l), changesOf("2:a+1 1:a+1"), "", impl.SaveMove},
		{"changes that are not good, passed over", packedSave(3, l), changesOf("0:a+1"), "", impl.SaveMove},
		{"a later version, changes that are not good", packedSave(4, l), changesOf("0:a+1"), "", impl.SaveNew},
		{"another digest, a later version, changes that are not good", append(packedSave(4, l), 0), changesOf("0:a+1"), "", impl.SaveSum},
	} {
		wantLoad(t, c.what, c.b, c.changes, valuesOf(c.want), c.code)
		wantSlowLoad(t, c.what, c.b, c.changes)
	}
}

func spoiledValues(l []impl.Value, next func(int) int) []impl.Value {
	out := slices.Clone(l)
	if len(out) == 0 {
		return []impl.Value{value(strangeName(next), coinOf(next, farNumbers()), "")}
	}
	v := &out[next(len(out))]
	switch next(4) {
	case 0:
		v.Name = strangeName(next)
	case 1:
		v.Text = strings.Repeat("t", coinOf(next, []int{99, 100, 101, 256, 1000}))
	case 2:
		out = append(out, coinOf(next, out))
	case 3:
		v.Name = coinOf(next, out).Name
	}
	return out
}

func spoiledChanges(l []impl.Change, next func(int) int) []impl.Change {
	out := slices.Clone(l)
	if len(out) == 0 {
		return []impl.Change{{From: next(4), Kind: next(7), Name: strangeName(next)}}
	}
	c := &out[next(len(out))]
	strange := append(farNumbers(), -1, 0, 1, 2, 3, 4, 5, 6, mostBy, mostBy+1, -mostBy-1)
	switch next(4) {
	case 0:
		c.Name = strangeName(next)
	case 1:
		c.To = strangeName(next)
	case 2:
		*coinOf(next, []*int{&c.From, &c.Kind, &c.By}) = coinOf(next, strange)
	case 3:
		out = slices.Repeat(out, 1+next(12))
	}
	return out
}

// Promise 29.
func TestSavesAnswerAtAnyArguments(t *testing.T) {
	kinds := map[string]int{}
	for seed := range 2500 {
		next := coinRow(seed + 2922)
		l, changes, version := coinNamed(next), coinChanges(next, next(8)), 1+next(versionNow)
		if next(6) == 0 {
			l = coinSaved(next, next(mostFields+1))
		}
		if next(3) == 0 {
			l = spoiledValues(l, next)
		}
		if next(3) == 0 {
			changes = spoiledChanges(changes, next)
		}
		if next(5) == 0 {
			version = coinOf(next, saveVersions())
		}
		b := packedSave(version, l)
		if next(3) == 0 {
			b = coinSave(next)
		}
		_, code := slowLoad(b, changes)
		_, good := slowMigrate(version, l, changes)
		for what, good := range map[string]bool{"values": slowGoodValues(l), "changes": slowGoodChanges(changes), "migration": good} {
			kinds[fmt.Sprint(what, " ", good)]++
		}
		kinds[fmt.Sprint("code ", code)]++
		wantGoodValues(t, "any", l, slowGoodValues(l))
		wantSlowWrite(t, "any", version, l)
		wantSlowRead(t, "any", b)
		wantGoodChanges(t, "any", changes, slowGoodChanges(changes))
		wantSlowMigrate(t, "any", version, l, changes)
		wantSlowLoad(t, "any", b, changes)
	}
	for _, kind := range []string{"values true", "values false", "changes true", "changes false", "migration true", "migration false", "code 0", "code 1", "code 3", "code 4", "code 5", "code 6"} {
		if kinds[kind] < 40 {
			t.Error(kinds)
		}
	}
}

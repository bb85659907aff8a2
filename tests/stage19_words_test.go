package tests

import (
	"fmt"
	"regexp"
	"slices"
	"strconv"
	"strings"
	"testing"

	"loop.example/g00064/impl"
)

const mostEntries = 60
const mostWords = 200
const mostGiven = 10
const mostSaid = 2000
const mostCounted = 1000000000

func sevenLanguages() []string { return []string{"ar", "cs", "en", "fr", "ja", "pl", "ru"} }

// otherLanguages holds texts that are no language.
func otherLanguages() []string {
	return []string{"", "de", "e", "n", "ena", "en_", "en ", " en", "EN", "En", "eN", "en\x00", "ru\n", "jaa", "aa", "zz", "ar,cs", "pl\xff", "en_US", longName, strings.Repeat("en", 1000)}
}

// oneForm gives an entry without Plural, whatever its forms are.
func oneForm(key string, forms ...string) impl.Entry {
	return impl.Entry{Key: key, Forms: forms}
}

// inForms gives an entry with Plural, whatever its forms are.
func inForms(key string, forms ...string) impl.Entry {
	return impl.Entry{Key: key, Forms: forms, Plural: true}
}

func wordsOf(l ...impl.Entry) []impl.Entry { return l }

// givenOnes reads two texts each: a name and its value.
func givenOnes(texts ...string) []impl.Given {
	var out []impl.Given
	for i := 0; i < len(texts); i += 2 {
		out = append(out, impl.Given{Name: texts[i], Value: texts[i+1]})
	}
	return out
}

func manyWords(many int) []impl.Entry {
	var out []impl.Entry
	for _, name := range manyNames(many) {
		out = append(out, oneForm(name, "says "+name))
	}
	return out
}

func manyGiven(many int) []impl.Given {
	var out []impl.Given
	for _, name := range manyNames(many) {
		out = append(out, impl.Given{Name: name, Value: "<" + name + ">"})
	}
	return out
}

// formRule tells a form by how the digits of its numbers look.
type formRule struct {
	form int
	look *regexp.Regexp
}

// slowRules holds the rules of each language in their order; the first one that fits counts.
var slowRules = map[string][]formRule{
	"ar": {{1, regexp.MustCompile(`^1$`)}, {2, regexp.MustCompile(`^2$`)}, {3, regexp.MustCompile(`^[3-9]$|0[3-9]$|10$`)}, {4, regexp.MustCompile(`[2-9][0-9]$|1[1-9]$`)}, {5, regexp.MustCompile(``)}},
	"cs": {{1, regexp.MustCompile(`^1$`)}, {3, regexp.MustCompile(`^[234]$`)}, {5, regexp.MustCompile(``)}},
	"en": {{1, regexp.MustCompile(`^1$`)}, {5, regexp.MustCompile(``)}},
	"fr": {{1, regexp.MustCompile(`^[01]$`)}, {5, regexp.MustCompile(``)}},
	"ja": {{5, regexp.MustCompile(``)}},
	"pl": {{1, regexp.MustCompile(`^1$`)}, {3, regexp.MustCompile(`^[234]$|[^1][234]$`)}, {4, regexp.MustCompile(``)}},
	"ru": {{1, regexp.MustCompile(`^1$|[^1]1$`)}, {3, regexp.MustCompile(`^[234]$|[^1][234]$`)}, {4, regexp.MustCompile(``)}},
}

func slowPlural(language string, n int) int {
	if !within(0, n, mostCounted) {
		return 0
	}
	for _, rule := range slowRules[language] {
		if rule.look.MatchString(strconv.Itoa(n)) {
			return rule.form
		}
	}
	return 0
}

// slowForms gives the forms that numbers take.
func slowForms(language string) []int {
	var out []int
	for n := range 202 {
		if form := slowPlural(language, n); form != 0 && !slices.Contains(out, form) {
			out = append(out, form)
		}
	}
	slices.Sort(out)
	return out
}

var slowPatternLook = regexp.MustCompile(`^([^{}]|\{[A-Za-z_][A-Za-z_0-9]{0,19}\})*$`)

func slowPattern(s string) bool { return len(s) <= 200 && slowPatternLook.MatchString(s) }

func slowRisingKeys(l []impl.Entry) bool {
	good := len(l) <= 60
	for i, e := range l {
		good = good && slowGoodName(e.Key) && !slices.ContainsFunc(l[:i], func(ahead impl.Entry) bool { return strings.Compare(ahead.Key, e.Key) >= 0 })
	}
	return good
}

func slowGoodWords(language string, l []impl.Entry) bool {
	if !slices.Contains(sevenLanguages(), language) || !slowRisingKeys(l) {
		return false
	}
	many := map[bool]int{false: 1, true: len(slowForms(language))}
	for _, e := range l {
		if len(e.Forms) != many[e.Plural] || slices.ContainsFunc(e.Forms, func(form string) bool { return !slowPattern(form) }) {
			return false
		}
	}
	return true
}

func slowGoodGiven(given []impl.Given) bool {
	good := len(given) <= 10
	for i, g := range given {
		good = good && slowGoodName(g.Name) && len(g.Value) <= 200 && (i == 0 || given[i-1].Name < g.Name)
	}
	return good
}

var slowFieldLook = regexp.MustCompile(`\{[^{}]*\}`)

// slowSay cuts the pattern at all its fields, and puts each of them in by itself.
func slowSay(language string, l []impl.Entry, key string, n int, given []impl.Given) (string, bool) {
	if !slowGoodWords(language, l) || !slowGoodGiven(given) || !within(0, n, 1000000000) {
		return "", false
	}
	byName, byKey := map[string]string{"n": strconv.Itoa(n)}, map[string]impl.Entry{}
	for _, g := range given {
		byName[g.Name] = g.Value
	}
	for _, e := range l {
		byKey[e.Key] = e
	}
	e, there := byKey[key]
	if !there {
		return "", false
	}
	pattern := e.Forms[0]
	if e.Plural {
		pattern = e.Forms[slices.Index(slowForms(language), slowPlural(language, n))]
	}
	texts := slowFieldLook.Split(pattern, -1)
	out := texts[0]
	for i, field := range slowFieldLook.FindAllString(pattern, -1) {
		if value, there := byName[strings.Trim(field, "{}")]; there {
			field = value
		}
		out += field + texts[i+1]
	}
	if len(out) > 2000 {
		return "", false
	}
	return out, true
}

func slowMissing(from []impl.Entry, to []impl.Entry) ([]string, bool) {
	if !slowRisingKeys(from) || !slowRisingKeys(to) {
		return nil, false
	}
	left := map[string]bool{}
	for _, e := range from {
		left[e.Key] = e.Plural
	}
	for _, e := range to {
		if plural, there := left[e.Key]; there && plural == e.Plural {
			delete(left, e.Key)
		}
	}
	var out []string
	for key := range left {
		out = append(out, key)
	}
	slices.Sort(out)
	return out, true
}

// slowFalse goes over the bytes from the end, so that it knows of each `{` whether a `}` comes.
func slowFalse(s string) (string, bool) {
	if len(s) > 200 {
		return "", false
	}
	if runes, _ := slowRunes(s); slices.Contains(runes, noRune) {
		return "", false
	}
	const small, great = "abcdefghijklmnopqrstuvwxyzabcdefghijklm", "ABCDEFGHIJKLMNOPQRSTUVWXYZABCDEFGHIJKLM"
	comes := make([]bool, len(s))
	for i := len(s) - 1; i >= 0; i-- {
		comes[i] = s[i] == '}' || i+1 < len(s) && comes[i+1]
	}
	out, inside := "[", false
	for i := range len(s) {
		inside = inside || s[i] == '{' && comes[i]
		turned := s[i]
		for _, row := range []string{small, great} {
			if at := strings.IndexByte(row, s[i]); at >= 0 && !inside {
				turned = row[at+13]
			}
		}
		out += string([]byte{turned})
		inside = inside && s[i] != '}'
	}
	return out + "]", true
}

func wantPlural(t *testing.T, language string, n int, want int) {
	t.Helper()
	if got := purely(t, "PluralOf", impl.PluralOf, language, n); got[0] != want {
		t.Errorf("PluralOf %q, %d = %v, want %d", language, n, got, want)
	}
}

func wantGoodWords(t *testing.T, what string, language string, l []impl.Entry, want bool) {
	t.Helper()
	if got := purely(t, "GoodEntries", impl.GoodEntries, language, l); got[0] != want || slowGoodWords(language, l) != want {
		t.Errorf("%s: GoodEntries %q, %v = %v, want %v", what, language, l, got, want)
	}
}

func wantSay(t *testing.T, what string, language string, l []impl.Entry, key string, n int, given []impl.Given, want string, good bool) {
	t.Helper()
	got := purely(t, "SayEntry", impl.SayEntry, language, l, key, n, given)
	if got[0] != want || got[1] != good {
		t.Errorf("%s: SayEntry %q, %v, %q, %d, %q = %q, want %q, %v", what, language, l, key, n, given, got, want, good)
	}
}

// wantSlowSay asks for what the slow one gives.
func wantSlowSay(t *testing.T, what string, language string, l []impl.Entry, key string, n int, given []impl.Given) {
	t.Helper()
	want, good := slowSay(language, l, key, n, given)
	wantSay(t, what, language, l, key, n, given, want, good)
}

func wantMissing(t *testing.T, what string, from []impl.Entry, to []impl.Entry, want []string, good bool) {
	t.Helper()
	got := purely(t, "MissingIn", impl.MissingIn, from, to)
	if !alike(got[0], want) || got[1] != good {
		t.Errorf("%s: MissingIn %v, %v = %q, want %q, %v", what, from, to, got, want, good)
	}
}

// wantSlowMissing asks for what the slow one gives.
func wantSlowMissing(t *testing.T, what string, from []impl.Entry, to []impl.Entry) {
	t.Helper()
	want, good := slowMissing(from, to)
	wantMissing(t, what, from, to, want, good)
}

func wantFalse(t *testing.T, what string, s string, want string, good bool) {
	t.Helper()
	got := purely(t, "FalseLetters", impl.FalseLetters, s)
	if got[0] != want || got[1] != good {
		t.Errorf("%s: FalseLetters %q = %q, want %q, %v", what, s, got, want, good)
	}
}

// wantSlowFalse asks for what the slow one gives.
func wantSlowFalse(t *testing.T, what string, s string) {
	t.Helper()
	want, good := slowFalse(s)
	wantFalse(t, what, s, want, good)
}

func TestWordConstants(t *testing.T) {
	if impl.MaxEntries != mostEntries || impl.MaxWords != mostWords {
		t.Error(impl.MaxEntries, impl.MaxWords)
	}
	forms := []int{impl.PluralOne, impl.PluralTwo, impl.PluralFew, impl.PluralMany, impl.PluralOther}
	if !slices.Equal(forms, []int{1, 2, 3, 4, 5}) {
		t.Error(forms)
	}
}

// What is answered is written over, and asked again.
func TestLanguagesAndFormsAreAnsweredAnew(t *testing.T) {
	told := map[string][]int{"ar": {1, 2, 3, 4, 5}, "cs": {1, 3, 5}, "en": {1, 5}, "fr": {1, 5}, "ja": {5}, "pl": {1, 3, 4}, "ru": {1, 3, 4}}
	for range 3 {
		l := purely(t, "Languages", impl.Languages)[0].([]string)
		if !slices.Equal(l, sevenLanguages()) {
			t.Fatal(l)
		}
		first, second := impl.Languages(), impl.Languages()
		first[0], first[6] = "xx", ""
		_ = append(first[:1], "yy")
		if !slices.Equal(second, sevenLanguages()) || !slices.Equal(impl.Languages(), sevenLanguages()) {
			t.Fatal("two answers share memory", second)
		}
		for language, want := range told {
			got := purely(t, "FormsOf", impl.FormsOf, language)[0]
			if !alike(got, want) || !slices.Equal(slowForms(language), want) {
				t.Error(language, got, want)
			}
			first, second := impl.FormsOf(language), impl.FormsOf(language)
			for i := range first {
				first[i] = -7
			}
			_ = append(first[:0:cap(first)], 9)
			if !slices.Equal(second, want) || !slices.Equal(impl.FormsOf(language), want) {
				t.Fatal("two answers share memory", language, second)
			}
		}
	}
	for _, other := range otherLanguages() {
		if got := purely(t, "FormsOf", impl.FormsOf, other)[0]; !alike(got, []int(nil)) {
			t.Error(other, got)
		}
	}
}

func TestPluralsTold(t *testing.T) {
	numbers := []int{-1, 0, 1, 2, 3, 4, 5, 10, 11, 12, 14, 15, 20, 21, 22, 24, 25, 99, 100, 101, 102, 103, 110, 111, 112, 114, 199, 200, 1000000000, 1000000001}
	for language, forms := range map[string]string{
		"ar": "0 5 1 2 3 3 3 3 4 4 4 4 4 4 4 4 4 4 5 5 5 3 3 4 4 4 4 5 5 0",
		"cs": "0 5 1 3 3 3 5 5 5 5 5 5 5 5 5 5 5 5 5 5 5 5 5 5 5 5 5 5 5 0",
		"en": "0 5 1 5 5 5 5 5 5 5 5 5 5 5 5 5 5 5 5 5 5 5 5 5 5 5 5 5 5 0",
		"fr": "0 1 1 5 5 5 5 5 5 5 5 5 5 5 5 5 5 5 5 5 5 5 5 5 5 5 5 5 5 0",
		"ja": "0 5 5 5 5 5 5 5 5 5 5 5 5 5 5 5 5 5 5 5 5 5 5 5 5 5 5 5 5 0",
		"pl": "0 4 1 3 3 3 4 4 4 4 4 4 4 4 3 3 4 4 4 4 3 3 4 4 4 4 4 4 4 0",
		"ru": "0 4 1 3 3 3 4 4 4 4 4 4 4 1 3 3 4 4 4 1 3 3 4 4 4 4 4 4 4 0",
	} {
		told := strings.Fields(forms)
		if len(told) != len(numbers) {
			t.Fatal(language, len(told))
		}
		for i, n := range numbers {
			want, err := strconv.Atoi(told[i])
			if err != nil {
				t.Fatal(err)
			}
			wantPlural(t, language, n, want)
			if slowPlural(language, n) != want {
				t.Error("slow", language, n)
			}
			for _, other := range otherLanguages() {
				wantPlural(t, other, n, 0)
			}
		}
		for _, n := range append(beyond(mostCounted), -1000000001, -100, -21, -3, -2, 1<<31, 1<<32+1, 1<<32+2, 1<<32+100) {
			wantPlural(t, language, n, 0)
		}
	}
}

// Promise 19: each number has just one form, one that the language has, and each form has a number.
func TestEachNumberHasOneFormOfItsLanguage(t *testing.T) {
	for _, language := range sevenLanguages() {
		forms, taken := impl.FormsOf(language), map[int]int{}
		look := func(n int) {
			form := impl.PluralOf(language, n)
			if !slices.Contains(forms, form) || form != slowPlural(language, n) || form != impl.PluralOf(language, n) {
				t.Fatal(language, n, form, forms)
			}
			taken[form]++
		}
		for n := range 12000 {
			look(n)
			look(mostCounted - n)
		}
		for ten := 10; ten <= mostCounted; ten *= 10 {
			for off := range 130 {
				look(ten - min(off, ten))
				look(min(mostCounted, ten+off))
				look(min(mostCounted, 3*ten+off))
			}
		}
		if len(taken) != len(forms) || !slices.IsSorted(forms) {
			t.Error("not just the forms that numbers take", language, taken, forms)
		}
		next := coinRow(len(language) + int(language[0]) + 1900)
		for range 3000 {
			look(next(30000)*33333 + next(30000))
		}
	}
}

// goodPatterns holds patterns at each edge that the document names.
func goodPatterns() map[string]string {
	field := "{" + longName + "}"
	return map[string]string{
		"no byte":                      "",
		"one byte":                     "a",
		"a blank":                      " ",
		"as many bytes as may be":      strings.Repeat("x", mostWords),
		"as many of two bytes each":    strings.Repeat("é", mostWords/2),
		"a field alone":                "{a}",
		"a field first":                "{a}bc",
		"a field in the middle":        "b{a}c",
		"a field last":                 "bc{a}",
		"two side by side":             "{a}{b}",
		"the same twice":               "{a} and {a}",
		"the same twice, side by side": "{a}{a}",
		"n":                            "{n}",
		"n twice and others":           "{n} of {n}{who}",
		"names of all kinds":           "{_}{A}{a9}{Z_0}{__}",
		"the longest name":             field,
		"the longest names, many":      strings.Repeat(field, 9),
		"fields alone, many":           strings.Repeat("{a}", 66) + "xy",
		"a long text and a field":      strings.Repeat("x", mostWords-3) + "{a}",
		"a field and a long text":      "{a}" + strings.Repeat("x", mostWords-3),
		"bytes that are no rune":       "\xff\xfe{a}\x80",
		"a cut rune beside a field":    "\xe2\x82{a}\xac",
		"the rune 65533":               "\ufffd{a}\ufffd",
		"ends of lines and noughts":    "\x00\n{a}\r\n\t\x00",
		"other brackets":               "[a](b)<c>|",
		"runes of all lengths":         "é€😀{a}é€😀",
		"all other bytes":              allBytesBut("{}")[:mostWords],
		"the last bytes":               allBytesBut("{}")[256-2-mostWords:],
	}
}

// allBytesBut gives each byte once, without those.
func allBytesBut(those string) string {
	var out []byte
	for b := range 256 {
		if strings.IndexByte(those, byte(b)) < 0 {
			out = append(out, byte(b))
		}
	}
	return string(out)
}

// badPatterns holds texts that are no patterns, in each way that the document names.
func badPatterns() map[string]string {
	out := map[string]string{
		"one byte too many":               strings.Repeat("x", mostWords+1),
		"far too many bytes":              strings.Repeat("x", 100000),
		"too many of two bytes each":      strings.Repeat("é", mostWords/2+1),
		"too long by a field":             strings.Repeat("x", mostWords-2) + "{a}",
		"fields alone, too many":          strings.Repeat("{a}", 67),
		"{ alone":                         "{",
		"} alone":                         "}",
		"{ without }":                     "a{b",
		"{ without }, behind a field":     "{a}{b",
		"} without {":                     "a}b",
		"} without {, behind a field":     "{a}}",
		"} without {, ahead of a field":   "}{a}",
		"} ahead of {":                    "}{",
		"nothing between":                 "{}",
		"nothing between, behind a field": "{a}{}",
		"two of each":                     "{{a}}",
		"two {":                           "{{a}",
		"two {, apart":                    "{a{b}",
		"two }":                           "{a}}",
		"two }, apart":                    "{a}b}",
		"it ends in {":                    "abc{",
		"it ends in {, behind a field":    "{a}{",
		"it begins with }":                "}abc",
		"a blank in the name":             "{a }",
		"a blank ahead of the name":       "{ a}",
		"far apart":                       "{" + strings.Repeat("x", 150) + "}",
		"a field in a field":              "{a{b}c}",
		"a broken byte in the name":       "{a\xff}",
	}
	for i, name := range badNames() {
		out[fmt.Sprint("a name that is none ", i)] = "{" + name + "}"
		out[fmt.Sprint("a name that is none behind a field ", i)] = "x{a}{" + name + "}y"
		out[fmt.Sprint("a name that is none ahead of a field ", i)] = "x{" + name + "}{a}"
	}
	return out
}

// formsWith gives as many forms as a language has, with that pattern at one place.
func formsWith(language string, at int, pattern string) []string {
	out := slices.Repeat([]string{"ok {n}"}, len(slowForms(language)))
	out[at] = pattern
	return out
}

func TestPatternsOfEntries(t *testing.T) {
	for _, language := range sevenLanguages() {
		for what, pattern := range goodPatterns() {
			if len(pattern) > mostWords || !slowPattern(pattern) {
				t.Fatal(what)
			}
			wantGoodWords(t, what, language, wordsOf(oneForm("a", pattern)), true)
			for at := range slowForms(language) {
				wantGoodWords(t, what, language, wordsOf(inForms("a", formsWith(language, at, pattern)...)), true)
			}
		}
		for what, pattern := range badPatterns() {
			wantGoodWords(t, what, language, wordsOf(oneForm("a", pattern)), false)
			wantSay(t, what, language, wordsOf(oneForm("a", pattern)), "a", 1, nil, "", false)
			for at := range slowForms(language) {
				l := wordsOf(oneForm("a", "x"), inForms("b", formsWith(language, at, pattern)...), oneForm("c", "y"))
				wantGoodWords(t, what, language, l, false)
				for _, key := range []string{"a", "b", "c"} {
					wantSay(t, what, language, l, key, 1, nil, "", false)
				}
			}
		}
	}
}

// All texts of up to seven of those that decide.
func TestAllShortPatterns(t *testing.T) {
	good := 0
	texts := []string{""}
	for from := 0; from < len(texts); from++ {
		text := texts[from]
		want := slowPattern(text)
		if got := impl.GoodEntries("ja", wordsOf(oneForm("k", text))); got != want {
			t.Fatalf("%q: %v, want %v", text, got, want)
		}
		if want {
			good++
			said, _ := slowSay("ja", wordsOf(oneForm("k", text)), "k", 7, givenOnes("a", "}{1}"))
			if got, ok := impl.SayEntry("ja", wordsOf(oneForm("k", text)), "k", 7, givenOnes("a", "}{1}")); got != said || !ok {
				t.Fatalf("%q: %q, want %q, %v", text, got, said, ok)
			}
		}
		if len(text) < 7 {
			for _, unit := range []string{"a", "1", "{", "}", "\xff"} {
				texts = append(texts, text+unit)
			}
		}
	}
	if good < 1000 {
		t.Error("few were good", good)
	}
}

// goodWordLists holds entries that are good in English, at each limit that the document names.
func goodWordLists() map[string][]impl.Entry {
	return map[string][]impl.Entry{
		"none":                   nil,
		"one":                    wordsOf(oneForm("a", "x")),
		"one of an empty form":   wordsOf(oneForm("a", "")),
		"one in forms":           wordsOf(inForms("a", "x", "y")),
		"forms that are alike":   wordsOf(inForms("a", "", "")),
		"as many as may be":      manyWords(mostEntries),
		"one fewer":              manyWords(mostEntries - 1),
		"both kinds":             wordsOf(oneForm("a", "x"), inForms("b", "x", "y"), oneForm("c", "z")),
		"keys by bytes":          wordsOf(oneForm("B", "1"), oneForm("Z", "2"), oneForm("_", "3"), oneForm("a", "4"), oneForm("aB", "5"), oneForm("a_", "6"), oneForm("aa", "7")),
		"a key that ends":        wordsOf(oneForm("a", "1"), oneForm("a0", "2"), oneForm("a00", "3")),
		"a long key":             wordsOf(oneForm("a", "1"), oneForm(longName, "2")),
		"keys as in the pattern": wordsOf(oneForm("n", "{n}"), oneForm("who", "{n} {who}")),
	}
}

// badWordLists holds entries that are not good in English, in each way that the document names.
func badWordLists() map[string][]impl.Entry {
	out := map[string][]impl.Entry{
		"nothing":                       {{}},
		"one too many":                  manyWords(mostEntries + 1),
		"far too many":                  manyWords(99),
		"two of one Key":                wordsOf(oneForm("a", "x"), oneForm("a", "x")),
		"two of one Key, unlike Plural": wordsOf(oneForm("a", "x"), inForms("a", "x", "y")),
		"two of one Key, in midst":      wordsOf(oneForm("a", "x"), oneForm("b", "x"), oneForm("b", "x"), oneForm("c", "x")),
		"two that fall":                 wordsOf(oneForm("b", "x"), oneForm("a", "x")),
		"the last two fall":             wordsOf(oneForm("a", "x"), oneForm("c", "x"), oneForm("b", "x")),
		"the first two fall":            wordsOf(oneForm("b", "x"), oneForm("a", "x"), oneForm("c", "x")),
		"a longer one ahead":            wordsOf(oneForm("aa", "x"), oneForm("a", "x")),
		"a small letter ahead":          wordsOf(oneForm("a", "x"), oneForm("B", "x")),
		"no form":                       wordsOf(oneForm("a")),
		"two forms without Plural":      wordsOf(oneForm("a", "x", "y")),
		"no form with Plural":           wordsOf(inForms("a")),
		"one form with Plural":          wordsOf(inForms("a", "x")),
		"three forms with Plural":       wordsOf(inForms("a", "x", "y", "z")),
		"the first has no form":         wordsOf(oneForm("a"), oneForm("b", "x")),
		"the last has no form":          wordsOf(oneForm("a", "x"), oneForm("b")),
		"the last has a form too many":  wordsOf(oneForm("a", "x"), inForms("b", "x", "y", "z")),
		"the first form is no pattern":  wordsOf(inForms("a", "{", "y")),
		"the last form is no pattern":   wordsOf(inForms("a", "x", "}")),
		"the last one's is no pattern":  append(manyWords(5), oneForm("z", "{}")),
		"the first one's is no pattern": append(wordsOf(oneForm("a", "{}")), manyWords(5)...),
	}
	for i, name := range badNames() {
		out[fmt.Sprint("the only Key no name ", i)] = wordsOf(oneForm(name, "x"))
		out[fmt.Sprint("the first Key no name ", i)] = append(wordsOf(oneForm(name, "x")), oneForm("zzz", "x"))
		out[fmt.Sprint("the last Key no name ", i)] = append(wordsOf(oneForm("A", "x")), inForms(name, "x", "y"))
	}
	return out
}

func TestGoodEntries(t *testing.T) {
	for what, l := range goodWordLists() {
		wantGoodWords(t, what, "en", l, true)
		for _, other := range otherLanguages() {
			wantGoodWords(t, what+", no language", other, l, false)
		}
	}
	for what, l := range badWordLists() {
		wantGoodWords(t, what, "en", l, false)
	}
	for _, language := range sevenLanguages() {
		has := len(impl.FormsOf(language))
		for many := range 8 {
			forms := slices.Repeat([]string{"{n}"}, many)
			wantGoodWords(t, "so many without Plural", language, wordsOf(oneForm("a", forms...)), many == 1)
			wantGoodWords(t, "so many with Plural", language, wordsOf(inForms("a", forms...)), many == has)
			wantGoodWords(t, "so many at the end", language, wordsOf(oneForm("a", "x"), inForms("b", forms...)), many == has)
			wantSlowSay(t, "so many", language, wordsOf(inForms("a", forms...)), "a", 2, nil)
		}
		wantGoodWords(t, "none", language, nil, true)
		wantGoodWords(t, "as many as may be", language, manyWords(mostEntries), true)
		wantGoodWords(t, "one too many", language, manyWords(mostEntries+1), false)
	}
}

func TestSayTold(t *testing.T) {
	for _, c := range []struct {
		what    string
		pattern string
		n       int
		given   []impl.Given
		want    string
	}{
		{"no byte", "", 0, nil, ""},
		{"no field", "hello", 0, nil, "hello"},
		{"n", "{n}", 0, nil, "0"},
		{"n in the midst", "a{n}b", 1, nil, "a1b"},
		{"n, the greatest", "{n}!", 1000000000, nil, "1000000000!"},
		{"n twice", "{n}{n}", 42, nil, "4242"},
		{"n that is given", "{n}", 42, givenOnes("n", "many"), "many"},
		{"n that is given, twice", "{n}/{n}", 42, givenOnes("n", "x"), "x/x"},
		{"n that is given as nothing", "a{n}b", 42, givenOnes("n", ""), "ab"},
		{"n beside others that are given", "{n} {who}", 42, givenOnes("m", "M", "who", "Ann"), "42 Ann"},
		{"N is not n", "{N}{n}", 42, nil, "{N}42"},
		{"nn is not n", "{nn}{n}{n_}{_n}", 3, nil, "{nn}3{n_}{_n}"},
		{"first", "{a}bc", 1, givenOnes("a", "X"), "Xbc"},
		{"in the midst", "b{a}c", 1, givenOnes("a", "X"), "bXc"},
		{"last", "bc{a}", 1, givenOnes("a", "X"), "bcX"},
		{"alone", "{a}", 1, givenOnes("a", "X"), "X"},
		{"two side by side", "{a}{b}", 1, givenOnes("a", "X", "b", "Y"), "XY"},
		{"two in the other order", "{b}{a}", 1, givenOnes("a", "X", "b", "Y"), "YX"},
		{"the same twice", "{a}-{a}", 1, givenOnes("a", "X"), "X-X"},
		{"one that is not given", "{a}-{b}", 1, givenOnes("a", "X"), "X-{b}"},
		{"none is given", "{a}-{b}", 1, nil, "{a}-{b}"},
		{"one that is given and not asked", "{a}", 1, givenOnes("a", "X", "b", "Y"), "X"},
		{"names that begin alike", "{a}{ab}{abc}", 1, givenOnes("a", "1", "abc", "3"), "1{ab}3"},
		{"names by letters", "{a}{A}", 1, givenOnes("A", "great", "a", "small"), "smallgreat"},
		{"a value of no byte", "<{a}>", 1, givenOnes("a", ""), "<>"},
		{"a value that is a field", "{a}{b}", 1, givenOnes("a", "{b}", "b", "Y"), "{b}Y"},
		{"a value that is its own field", "{a}", 1, givenOnes("a", "{a}"), "{a}"},
		{"a value that is n", "{a}", 7, givenOnes("a", "{n}"), "{n}"},
		{"values in a ring", "{a}{b}", 7, givenOnes("a", "{b}", "b", "{a}"), "{b}{a}"},
		{"values that make a field together", "{a}b{c}", 7, givenOnes("a", "{", "b", "no", "c", "}"), "{b}"},
		{"a value of { alone", "{a}{n}", 7, givenOnes("a", "{"), "{7"},
		{"a value of } alone", "{n}{a}", 7, givenOnes("a", "}"), "7}"},
		{"a value of broken bytes", "\xff{a}\xfe", 7, givenOnes("a", "\xe2\x82"), "\xff\xe2\x82\xfe"},
		{"values that make a rune", "\xe2{a}", 7, givenOnes("a", "\x82\xac"), "€"},
		{"a dollar is a byte", "$1{a}%d", 7, givenOnes("a", "$0\\1"), "$1$0\\1%d"},
		{"the longest name", "{" + longName + "}", 7, givenOnes(longName, "Y"), "Y"},
		{"ten given ones", "{n00}{n09}{n10}", 7, manyGiven(mostGiven), "<n00><n09>{n10}"},
		{"a longest value", "{a}", 7, givenOnes("a", strings.Repeat("v", mostWords)), strings.Repeat("v", mostWords)},
	} {
		l := wordsOf(oneForm("a", "no"), oneForm("k", c.pattern), oneForm("z", "no"))
		for _, language := range sevenLanguages() {
			wantSay(t, c.what, language, l, "k", c.n, c.given, c.want, true)
			wantSlowSay(t, c.what, language, l, "k", c.n, c.given)
			forms := wordsOf(inForms("k", slices.Repeat([]string{c.pattern}, len(slowForms(language)))...))
			wantSay(t, c.what, language, forms, "k", c.n, c.given, c.want, true)
		}
	}
}

func TestSayTakesTheFormOfN(t *testing.T) {
	names := []string{"", "one", "two", "few", "many", "other"}
	for _, language := range sevenLanguages() {
		var forms []string
		for _, form := range impl.FormsOf(language) {
			forms = append(forms, names[form]+" {n}")
		}
		l := wordsOf(inForms("a", slices.Repeat([]string{"no"}, len(forms))...), oneForm("b", "always {n}"), inForms("k", forms...))
		for n := range 230 {
			digits := strconv.Itoa(n)
			wantSay(t, "with Plural", language, l, "k", n, nil, names[slowPlural(language, n)]+" "+digits, true)
			wantSay(t, "without Plural", language, l, "b", n, nil, "always "+digits, true)
			wantSay(t, "n is given", language, l, "k", n, givenOnes("n", "?"), names[slowPlural(language, n)]+" ?", true)
		}
		for _, n := range append(beyond(mostCounted), -2, -100) {
			for _, key := range []string{"a", "b", "k"} {
				wantSay(t, "a wrong n", language, l, key, n, nil, "", false)
				wantSay(t, "a wrong n that is given", language, l, key, n, givenOnes("n", "?"), "", false)
			}
		}
	}
	l := wordsOf(inForms("k", "one", "other"))
	wantSay(t, "the zeroth in English", "en", l, "k", 0, nil, "other", true)
	wantSay(t, "the zeroth in French", "fr", l, "k", 0, nil, "one", true)
	wantSay(t, "too few forms", "pl", l, "k", 0, nil, "", false)
	wantSay(t, "too many forms", "ja", l, "k", 0, nil, "", false)
}

func TestSayOfWrongInputs(t *testing.T) {
	for what, l := range goodWordLists() {
		keys := append(badNames(), "a", "B", "_", "k", "zz", "n00", "n59", "n60", "who", longName)
		for _, key := range keys {
			wantSlowSay(t, what, "en", l, key, 1, nil)
			if !slices.ContainsFunc(l, func(e impl.Entry) bool { return e.Key == key }) {
				wantSay(t, what+", no such key", "en", l, key, 1, nil, "", false)
			}
		}
		for _, e := range l {
			wantSay(t, what, "en", l, e.Key, 1, givenOnes("n", "1"), strings.ReplaceAll(e.Forms[0], "{n}", "1"), true)
			for _, other := range otherLanguages() {
				wantSay(t, what+", no language", other, l, e.Key, 1, nil, "", false)
			}
		}
	}
	for what, l := range badWordLists() {
		for _, e := range l {
			wantSay(t, what, "en", l, e.Key, 1, nil, "", false)
		}
		wantSay(t, what, "en", l, "a", 1, nil, "", false)
	}
}

// badGivenLists holds given ones that are not good, in each way that the document names.
func badGivenLists() map[string][]impl.Given {
	long := strings.Repeat("v", mostWords+1)
	out := map[string][]impl.Given{
		"nothing":                  {{}},
		"eleven":                   manyGiven(mostGiven + 1),
		"far too many":             manyGiven(99),
		"two of one Name":          givenOnes("a", "1", "a", "1"),
		"two of one Name at last":  givenOnes("a", "1", "b", "2", "b", "3"),
		"two that fall":            givenOnes("b", "1", "a", "2"),
		"the last two fall":        givenOnes("a", "1", "c", "2", "b", "3"),
		"a longer one ahead":       givenOnes("aa", "1", "a", "2"),
		"a small letter ahead":     givenOnes("a", "1", "B", "2"),
		"a Value too long":         givenOnes("a", long),
		"the first Value too long": givenOnes("a", long, "b", "2"),
		"the last Value too long":  givenOnes("a", "1", "zz", long),
		"a Value far too long":     givenOnes("n", strings.Repeat("v", 100000)),
		"too long by its bytes":    givenOnes("a", strings.Repeat("é", mostWords/2+1)),
	}
	for i, name := range badNames() {
		out[fmt.Sprint("the only one no name ", i)] = givenOnes(name, "1")
		out[fmt.Sprint("the first one no name ", i)] = givenOnes(name, "1", "zzz", "2")
		out[fmt.Sprint("the last one no name ", i)] = givenOnes("A", "1", name, "2")
	}
	return out
}

func TestSayOfWrongGiven(t *testing.T) {
	l := wordsOf(oneForm("field", "{a}{n}"), oneForm("none", "bare"), inForms("some", "{n} a", "{n} {b}"))
	for what, given := range badGivenLists() {
		if slowGoodGiven(given) {
			t.Fatal(what)
		}
		for _, key := range []string{"field", "none", "some", "not_there"} {
			wantSay(t, what, "en", l, key, 1, given, "", false)
			wantSay(t, what, "en", l, key, 5, given, "", false)
		}
	}
	for many := range mostGiven + 1 {
		wantSay(t, "so many given", "en", l, "field", 1, manyGiven(many), "{a}1", true)
	}
	whole := strings.Repeat("é", mostWords/2)
	wantSay(t, "a longest value, not asked", "en", l, "none", 1, givenOnes("a", whole), "bare", true)
	wantSay(t, "a longest value", "en", l, "field", 1, givenOnes("a", whole), whole+"1", true)
}

// An outcome of just as many bytes as may be, and of one more.
func TestSayAtTheMost(t *testing.T) {
	value := strings.Repeat("v", mostWords)
	for _, c := range []struct {
		what    string
		pattern string
		given   []impl.Given
		n       int
		many    int
	}{
		{"ten values", strings.Repeat("{a}", 10), givenOnes("a", value), 1, 2000},
		{"ten values and a byte", strings.Repeat("{a}", 10) + "x", givenOnes("a", value), 1, 2001},
		{"a byte and ten values", "x" + strings.Repeat("{a}", 10), givenOnes("a", value), 1, 2001},
		{"ten values and nothing", strings.Repeat("{a}", 10) + "{b}", givenOnes("a", value, "b", ""), 1, 2000},
		{"ten values and n", strings.Repeat("{a}", 10) + "{n}", givenOnes("a", value), 0, 2001},
		{"nine values and n", strings.Repeat("{a}", 9) + "{n}", givenOnes("a", value), 1000000000, 1810},
		{"just so many with n", strings.Repeat("{a}", 10) + "{n}", givenOnes("a", value[:199]), 1000000000, 2000},
		{"one more with n", strings.Repeat("{a}", 10) + "{n}x", givenOnes("a", value[:199]), 1000000000, 2001},
		{"just so many with a field left", strings.Repeat("{a}", 10) + "1234567{b}", givenOnes("a", value[:199]), 1, 2000},
		{"one more with a field left", strings.Repeat("{a}", 10) + "1234567{bc}", givenOnes("a", value[:199]), 1, 2001},
		{"two values", strings.Repeat("{a}{b}", 8) + strings.Repeat("z", 152), givenOnes("a", value, "b", value[:31]), 1, 2000},
		{"two values, one more", strings.Repeat("{a}{b}", 8) + strings.Repeat("z", 152), givenOnes("a", value, "b", value[:32]), 1, 2008},
		{"all fields", strings.Repeat("{a}", 66), givenOnes("a", value[:30]), 1, 1980},
		{"all fields, too long", strings.Repeat("{a}", 66), givenOnes("a", value[:31]), 1, 2046},
		{"as long as can be", strings.Repeat("{a}", 66), givenOnes("a", value), 1, 13200},
	} {
		want, good := slowSay("ja", wordsOf(oneForm("k", c.pattern)), "k", c.n, c.given)
		if good != (c.many <= mostSaid) || good && len(want) != c.many {
			t.Fatal(c.what, len(want), good)
		}
		wantSay(t, c.what, "ja", wordsOf(oneForm("k", c.pattern)), "k", c.n, c.given, want, good)
		// A form that is too long counts only where it is said.
		l := wordsOf(inForms("k", c.pattern, "short"), oneForm("z", c.pattern))
		wantSlowSay(t, c.what, "fr", l, "k", 1, c.given)
		wantSay(t, c.what, "fr", l, "k", 2, c.given, "short", true)
		wantSlowSay(t, c.what, "fr", l, "z", c.n, c.given)
	}
}

// coinPattern gives a pattern of some texts and fields of those names.
func coinPattern(next func(int) int, names []string) string {
	units := []string{"a", "b ", "xyz", "é", "€", "\xff", "n", "$1", "\\", "\n", "%s", "[", "😀", "\xe2\x82"}
	out := ""
	for range next(12) {
		unit := coinOf(next, units)
		if next(2) == 0 {
			unit = "{" + coinOf(next, names) + "}"
		}
		if len(out)+len(unit) <= mostWords {
			out += unit
		}
	}
	return out
}

func coinEntries(next func(int) int, language string, many int, names []string) []impl.Entry {
	var out []impl.Entry
	has := slowForms(language)
	for i, key := range manyNames(many) {
		if next(4) == 0 {
			key += coinOf(next, []string{"A", "_", "z9"})
		}
		if next(2) == 0 {
			out = append(out, oneForm(key, fmt.Sprint(i)+coinPattern(next, names)))
			continue
		}
		var forms []string
		for _, form := range has {
			forms = append(forms, fmt.Sprint(i, ":", form, " ")+coinPattern(next, names))
		}
		out = append(out, inForms(key, forms...))
	}
	return out
}

// coinGiven gives values for some of the names, with braces in them or not.
func coinGiven(next func(int) int, names []string, braces bool) []impl.Given {
	values := []string{"", "1", "Ann", "é€", "\xff\xfe", "$0", strings.Repeat("long", 20), strings.Repeat("v", mostWords)}
	if braces {
		values = append(values, "{", "}", "{}", "{a}", "{n}", "{n01}", "}{", "x{who}y")
	}
	var out []impl.Given
	for _, name := range names {
		if next(2) == 0 && len(out) < mostGiven {
			out = append(out, impl.Given{Name: name, Value: coinOf(next, values)})
		}
	}
	return out
}

// Promise 19: what is said has no field left that was given.
func TestWhatIsSaidHasNoFieldLeftThatWasGiven(t *testing.T) {
	names := []string{"A", "a", "ab", "n", "n01", "who"}
	filled, left, longOnes := 0, 0, 0
	for seed := range 3000 {
		next := coinRow(seed + 19000)
		language := coinOf(next, sevenLanguages())
		l := coinEntries(next, language, 1+next(6), names)
		given, e, n := coinGiven(next, names, false), coinOf(next, l), next(130)
		wantSlowSay(t, "coins", language, l, e.Key, n, given)
		said, good := impl.SayEntry(language, l, e.Key, n, given)
		if !good {
			longOnes++
			continue
		}
		for _, g := range given {
			if strings.Contains(said, "{"+g.Name+"}") {
				t.Fatalf("%v: {%s} is left: %q", e, g.Name, said)
			}
		}
		if strings.Contains(said, "{n}") {
			t.Fatalf("%v: {n} is left: %q", e, said)
		}
		pattern := e.Forms[0]
		if e.Plural {
			pattern = e.Forms[slices.Index(impl.FormsOf(language), impl.PluralOf(language, n))]
		}
		// What is left stands in the pattern too, and what stands between fields is all there.
		for _, field := range slowFieldLook.FindAllString(said, -1) {
			if !strings.Contains(pattern, field) {
				t.Fatalf("%v: %s is none of it: %q", e, field, said)
			}
			left++
		}
		rest := said
		for _, text := range slowFieldLook.Split(pattern, -1) {
			at := strings.Index(rest, text)
			if at < 0 {
				t.Fatalf("%v: %q is lost: %q", e, text, said)
			}
			rest = rest[at+len(text):]
		}
		if said != pattern {
			filled++
		}
		// Said again under the same names, nothing more is filled in.
		if len(said) <= mostWords {
			wantSay(t, "again", "ja", wordsOf(oneForm("k", said)), "k", n, given, said, true)
		}
	}
	if filled < 1000 || left < 1000 || longOnes > 500 {
		t.Error(filled, left, longOnes)
	}
}

func TestSayOfCoinsWithBraces(t *testing.T) {
	names := []string{"a", "b", "n", "n01", "who"}
	for seed := range 2000 {
		next := coinRow(seed + 19300)
		language := coinOf(next, sevenLanguages())
		l := coinEntries(next, language, 1+next(4), names)
		for _, e := range l {
			wantSlowSay(t, "coins", language, l, e.Key, next(130), coinGiven(next, names, true))
		}
	}
}

func TestMissingTold(t *testing.T) {
	keys := func(texts string) []impl.Entry {
		var out []impl.Entry
		for _, key := range strings.Fields(texts) {
			out = append(out, impl.Entry{Key: strings.TrimSuffix(key, "*"), Plural: strings.HasSuffix(key, "*")})
		}
		return out
	}
	for _, c := range []struct {
		what string
		from string
		to   string
		want string
	}{
		{"none in both", "", "", ""},
		{"none in from", "", "a b", ""},
		{"none in to", "a b", "", "a b"},
		{"the same", "a b* c", "a b* c", ""},
		{"only from has it, first", "a b c", "b c", "a"},
		{"only from has it, in the midst", "a b c", "a c", "b"},
		{"only from has it, last", "a b c", "a b", "c"},
		{"only to has it, first", "b c", "a b c", ""},
		{"only to has it, in the midst", "a c", "a b c", ""},
		{"only to has it, last", "a b", "a b c", ""},
		{"each has others", "a c e", "b d f", "a c e"},
		{"each has one more", "a b d", "b c d", "a"},
		{"unlike Plural, first", "a b c", "a* b c", "a"},
		{"unlike Plural, in the midst", "a b* c", "a b c", "b"},
		{"unlike Plural, last", "a b c*", "a b c", "c"},
		{"unlike Plural, all", "a b* c", "a* b c*", "a b c"},
		{"unlike Plural and lost ones", "a* b c d*", "a c* d*", "a b c"},
		{"alike Plural", "a*", "a*", ""},
		{"keys by bytes", "A Z _ a aa b", "B Z a", "A _ aa b"},
		{"keys that begin alike", "a ab abc", "ab", "a abc"},
	} {
		wantMissing(t, c.what, keys(c.from), keys(c.to), strings.Fields(c.want), true)
		wantSlowMissing(t, c.what, keys(c.from), keys(c.to))
	}
}

// strangeForms holds forms that are good in no language; MissingIn does not ask for them.
func strangeForms() [][]string {
	return [][]string{nil, {}, {""}, {"{"}, {"}", "{}", "{{a}}"}, {strings.Repeat("x", mostWords+1)}, slices.Repeat([]string{"x"}, 70), {"\xff"}, {strings.Repeat("é{", 5000)}}
}

func TestMissingOfAnyForms(t *testing.T) {
	for _, one := range strangeForms() {
		for _, other := range strangeForms() {
			for _, plural := range []bool{false, true} {
				from := wordsOf(impl.Entry{Key: "a", Forms: one, Plural: plural}, impl.Entry{Key: "b", Forms: other, Plural: !plural})
				to := wordsOf(impl.Entry{Key: "a", Forms: other, Plural: plural}, impl.Entry{Key: "b", Forms: one, Plural: plural})
				wantMissing(t, "any forms", from, to, []string{"b"}, true)
				wantMissing(t, "any forms, turned round", to, from, []string{"b"}, true)
				wantMissing(t, "any forms, itself", from, from, nil, true)
				wantMissing(t, "any forms, none", from, nil, []string{"a", "b"}, true)
			}
		}
	}
}

func TestMissingAtTheMostAndOfWrongInputs(t *testing.T) {
	full := manyWords(mostEntries)
	wantMissing(t, "all of the most", full, nil, manyNames(mostEntries), true)
	wantMissing(t, "the most in both", full, full, nil, true)
	wantMissing(t, "the most in to", nil, full, nil, true)
	for at := range mostEntries {
		fewer := slices.Delete(slices.Clone(full), at, at+1)
		wantMissing(t, "one is lost", full, fewer, manyNames(mostEntries)[at:at+1], true)
		wantMissing(t, "one is more", fewer, full, nil, true)
		turned := slices.Clone(full)
		turned[at].Plural = true
		wantMissing(t, "one is unlike", full, turned, manyNames(mostEntries)[at:at+1], true)
		wantMissing(t, "one is unlike, turned round", turned, full, manyNames(mostEntries)[at:at+1], true)
	}
	others := [][]impl.Entry{nil, wordsOf(oneForm("a")), full}
	for what, l := range badWordLists() {
		if slowRisingKeys(l) {
			// Not good for a language, but for its forms alone.
			wantSlowMissing(t, what, l, full)
			wantSlowMissing(t, what, full, l)
			continue
		}
		for _, other := range append(others, l) {
			wantMissing(t, what, l, other, nil, false)
			wantMissing(t, what, other, l, nil, false)
		}
	}
	for what, l := range goodWordLists() {
		for _, other := range goodWordLists() {
			wantSlowMissing(t, what, l, other)
		}
	}
}

// All pairs of lists over four keys, each lost, bare or with Plural.
func TestMissingOfAllSmallLists(t *testing.T) {
	var lists [][]impl.Entry
	for way := range 81 {
		var l []impl.Entry
		for i, key := range []string{"A", "a", "ab", "b"} {
			if kind := way / []int{1, 3, 9, 27}[i] % 3; kind > 0 {
				l = append(l, impl.Entry{Key: key, Plural: kind == 2})
			}
		}
		lists = append(lists, l)
	}
	for _, from := range lists {
		for _, to := range lists {
			want, _ := slowMissing(from, to)
			got, good := impl.MissingIn(from, to)
			if !good || !slices.Equal(got, want) {
				t.Fatal(from, to, got, want, good)
			}
		}
	}
}

func TestFalseLettersTold(t *testing.T) {
	for _, c := range []struct {
		what string
		text string
		want string
	}{
		{"no byte", "", "[]"},
		{"a letter", "a", "[n]"},
		{"small ones at the ends", "amnz", "[nzam]"},
		{"great ones at the ends", "AMNZ", "[NZAM]"},
		{"all small ones", "abcdefghijklmnopqrstuvwxyz", "[nopqrstuvwxyzabcdefghijklm]"},
		{"all great ones", "ABCDEFGHIJKLMNOPQRSTUVWXYZ", "[NOPQRSTUVWXYZABCDEFGHIJKLM]"},
		{"the bytes beside them", "@[`{|~", "[@[`{|~]"},
		{"digits and signs", "0189_-+ .,!?", "[0189_-+ .,!?]"},
		{"words", "Hello, World 7", "[Uryyb, Jbeyq 7]"},
		{"brackets in it", "[a]", "[[n]]"},
		{"a field", "ab{n}", "[no{n}]"},
		{"a field first", "{who} eats", "[{who} rngf]"},
		{"a field in the midst", "a {big} tree", "[n {big} gerr]"},
		{"a field alone", "{abc}", "[{abc}]"},
		{"two side by side", "{a}{b}c", "[{a}{b}p]"},
		{"nothing between", "a{}b", "[n{}o]"},
		{"no name between", "a{b c!1}d", "[n{b c!1}q]"},
		{"{ within", "a{b{c}d", "[n{b{c}q]"},
		{"{ within, twice closed", "a{b{c}d}e", "[n{b{c}q}r]"},
		{"{ within, thrice", "{{{a}b}c}d", "[{{{a}o}p}q]"},
		{"} ahead of {", "a}b{c}d", "[n}o{c}q]"},
		{"} alone", "a}b", "[n}o]"},
		{"} ahead of an open {", "a}b{c", "[n}o{p]"},
		{"{ alone", "a{b", "[n{o]"},
		{"{ last", "ab{", "[no{]"},
		{"{ first", "{ab", "[{no]"},
		{"{ behind a closed one", "{a}b{c", "[{a}o{p]"},
		{"two { behind a closed one", "{a}b{c{d", "[{a}o{p{q]"},
		{"{ alone", "{", "[{]"},
		{"} alone", "}", "[}]"},
		{"both alone", "{}", "[{}]"},
		{"both turned", "}{", "[}{]"},
		{"runes of two bytes", "éaß", "[énß]"},
		{"runes of three bytes", "a€b", "[n€o]"},
		{"runes of four bytes", "a😀b", "[n😀o]"},
		{"runes within a field", "a{é€😀b}c", "[n{é€😀b}p]"},
		{"letters of other rows", "яあａｚı", "[яあａｚı]"},
		{"noughts and ends of lines", "a\x00\nb\r", "[n\x00\no\r]"},
		{"beside the rune 65533", "\ufffca\ufffe\uffff", "[\ufffcn\ufffe\uffff]"},
		{"the last rune", "\U0010ffffa", "[\U0010ffffn]"},
		{"as many bytes as may be", strings.Repeat("ab", 100), "[" + strings.Repeat("no", 100) + "]"},
		{"as many of two bytes", strings.Repeat("é", 100), "[" + strings.Repeat("é", 100) + "]"},
		{"a long field", "{" + strings.Repeat("a", 198) + "}", "[{" + strings.Repeat("a", 198) + "}]"},
		{"a long open field", "{" + strings.Repeat("a", 199), "[{" + strings.Repeat("n", 199) + "]"},
	} {
		wantFalse(t, c.what, c.text, c.want, true)
		wantSlowFalse(t, c.what, c.text)
	}
}

func TestFalseLettersOfWrongInputs(t *testing.T) {
	for _, unit := range []string{"a", "{a}", "é", "{", "}", "\x00", "ab{"} {
		long := strings.Repeat(unit, mostWords)[:mostWords]
		wantSlowFalse(t, "as long as may be", long)
		wantFalse(t, "one byte too long", long+unit[:1], "", false)
		wantFalse(t, "far too long", strings.Repeat(long, 500), "", false)
	}
	wantFalse(t, "too long by its bytes alone", strings.Repeat("é", mostWords/2+1), "", false)
	wantFalse(t, "more than RunesOf takes", strings.Repeat("a", mostText+1), "", false)
	for _, broken := range append(brokenRunes(), "\ufffd") {
		for _, text := range []string{broken, "a" + broken, broken + "a", "{a}" + broken, "{" + broken + "}", "a{b" + broken, strings.Repeat("x", mostWords-len(broken)) + broken} {
			want, good := slowFalse(text)
			// Two pieces of one rune, side by side, may be another one.
			if good && strings.Contains(broken, "\ufffd") {
				t.Fatalf("%q", text)
			}
			wantFalse(t, "a rune that is none", text, want, good)
		}
	}
	wantFalse(t, "a byte that is no rune", "a\xffb", "", false)
	wantFalse(t, "in a field", "a{\xff}b", "", false)
	wantFalse(t, "the rune 65533", "a\ufffdb", "", false)
	wantFalse(t, "the rune 65533 in a field", "a{\ufffd}b", "", false)
	wantFalse(t, "a rune that is cut short", "ab\xe2\x82", "", false)
	wantFalse(t, "a cut rune at the end of the most", strings.Repeat("x", mostWords-1)+"\xc3", "", false)
}

// Each byte by itself, and all texts of up to six of those that decide.
func TestFalseLettersOfAllShortTexts(t *testing.T) {
	for b := range 256 {
		for _, text := range []string{string([]byte{byte(b)}), string([]byte{'{', byte(b), '}'}), string([]byte{'a', byte(b), 'z'}), string([]byte{'{', byte(b)})} {
			wantSlowFalse(t, "each byte", text)
		}
	}
	texts := []string{""}
	for from := 0; from < len(texts); from++ {
		text := texts[from]
		want, wantGood := slowFalse(text)
		if got, good := impl.FalseLetters(text); got != want || good != wantGood {
			t.Fatalf("%q: %q, want %q, %v", text, got, want, good)
		}
		if len(slowUnits(text)) < 6 {
			for _, unit := range []string{"a", "Z", "{", "}", "é", "\xff"} {
				texts = append(texts, text+unit)
			}
		}
	}
}

// Letters that are turned twice are what they were, and nothing but letters is turned.
func TestFalseLettersTwiceAreTheLettersAgain(t *testing.T) {
	units := []string{"a", "m", "N", "z", "Hello ", "{", "}", "{who}", "é", "€", "😀", "1", "[", "]", "\n", "{n}", "ж"}
	turned := 0
	for seed := range 2000 {
		next, text := coinRow(seed+19500), ""
		for range next(70) {
			if unit := coinOf(next, units); len(text)+len(unit) <= mostWords-2 {
				text += unit
			}
		}
		wantSlowFalse(t, "coins", text)
		once, good := impl.FalseLetters(text)
		if !good || len(once) != len(text)+2 || once[0] != '[' || once[len(once)-1] != ']' {
			t.Fatalf("%q: %q, %v", text, once, good)
		}
		again, good := impl.FalseLetters(once[1 : len(once)-1])
		if !good || again != "["+text+"]" {
			t.Fatalf("%q: %q, and then %q, %v", text, once, again, good)
		}
		for i := range len(text) {
			if text[i] != once[i+1] {
				turned++
				if !slowGoodName(text[i:i+1]) || text[i] == '_' {
					t.Fatalf("%q: %q at %d", text, once, i)
				}
			}
		}
		for _, field := range slowFieldLook.FindAllString(text, -1) {
			if !strings.Contains(once, field) {
				t.Fatalf("%q: %s is lost: %q", text, field, once)
			}
		}
	}
	if turned < 10000 {
		t.Error("few letters were turned", turned)
	}
}

// strangeWord gives a text at or beyond a limit of this chapter.
func strangeWord(next func(int) int) string {
	return coinOf(next, []string{"", "{", "}", "{}", "{a}", "{{a}}", "a{b", "\xff", "\ufffd", "{1}", strings.Repeat("x", mostWords), strings.Repeat("x", mostWords+1), strings.Repeat("{n}", 67), "é€😀", "}{"})
}

func spoiledWords(l []impl.Entry, next func(int) int) []impl.Entry {
	if len(l) == 0 {
		return wordsOf(oneForm(strangeName(next), strangeWord(next)))
	}
	out := slices.Clone(l)
	e := &out[next(len(out))]
	switch next(4) {
	case 0:
		e.Key = strangeName(next)
	case 1:
		e.Forms = append(slices.Clone(e.Forms), strangeWord(next))
	case 2:
		e.Forms = slices.Clone(e.Forms)
		e.Forms[next(len(e.Forms))] = strangeWord(next)
	case 3:
		e.Plural = !e.Plural
	}
	return out
}

// Promise 29.
func TestWordsAnswerAtAnyArguments(t *testing.T) {
	kinds := map[string]int{}
	for seed := range 2500 {
		next := coinRow(seed + 2919)
		language, names := coinOf(next, sevenLanguages()), []string{"a", "b", "n", "n00", "who"}
		l, other := coinEntries(next, language, coinOf(next, []int{0, 1, 2, 5, 59, 60, 61}), names), coinEntries(next, language, next(9), names)
		given, n, text := coinGiven(next, names, true), next(30000)*next(33333), coinPattern(next, names)
		if next(4) == 0 {
			l = spoiledWords(l, next)
		}
		if next(4) == 0 {
			other = spoiledWords(other, next)
		}
		if next(4) == 0 {
			given = append(given, impl.Given{Name: strangeName(next), Value: strangeWord(next)})
		}
		if next(6) == 0 {
			n, language = coinOf(next, beyond(mostCounted)), coinOf(next, append(otherLanguages(), "en"))
		}
		key := strangeName(next)
		if len(l) > 0 && next(5) > 0 {
			key = coinOf(next, l).Key
		}
		text += strangeWord(next)
		for what, good := range map[string]bool{"entries": slowGoodWords(language, l), "keys": slowRisingKeys(other), "given": slowGoodGiven(given), "text": len(text) <= mostWords} {
			kinds[fmt.Sprint(what, " ", good)]++
		}
		_, said := slowSay(language, l, key, n, given)
		kinds[fmt.Sprint("said ", said)]++
		wantPlural(t, language, n, slowPlural(language, n))
		wantGoodWords(t, "any", language, l, slowGoodWords(language, l))
		wantSlowSay(t, "any", language, l, key, n, given)
		wantSlowMissing(t, "any", l, other)
		wantSlowMissing(t, "any", other, l)
		wantSlowFalse(t, "any", text)
		wantSlowFalse(t, "any", key)
	}
	for _, kind := range []string{"entries true", "entries false", "keys true", "keys false", "given true", "given false", "text true", "text false", "said true", "said false"} {
		if kinds[kind] < 100 {
			t.Error(kinds)
		}
	}
}

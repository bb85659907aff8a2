package tests

import (
	"fmt"
	"math"
	"regexp"
	"slices"
	"strconv"
	"strings"
	"testing"

	"loop.example/g00064/impl"
)

const mostValue = 1000000000

// linesOf reads a program that must be one, its lines told with / between.
func linesOf(t *testing.T, rows string) []impl.Line {
	t.Helper()
	p := impl.ParseProgram(written(rows))
	if p.Wrong != 0 {
		t.Fatalf("%q is no program: line %d", rows, p.Wrong)
	}
	return p.Lines
}

// written gives the text of lines that are told with / between.
func written(rows string) string {
	if rows == "" {
		return ""
	}
	return strings.ReplaceAll(rows, "/", "\n") + "\n"
}

// varsOf gives vars by texts like a=1.
func varsOf(texts ...string) []impl.Var {
	var out []impl.Var
	for _, text := range texts {
		name, digits, _ := strings.Cut(text, "=")
		value, _ := strconv.Atoi(digits)
		out = append(out, impl.Var{Name: name, Value: value})
	}
	return out
}

// manyVars gives that many vars, rising, of value 0.
func manyVars(many int) []impl.Var {
	return varsOf(manyNames(many)...)
}

func manyTexts(many int) []string {
	return slices.Repeat([]string{"x"}, many)
}

// toldLine is a line with what it is read as.
type toldLine struct {
	text string
	line impl.Line
}

// toldLines holds each kind of line.
func toldLines() []toldLine {
	return []toldLine{
		{"say 5", impl.Line{Op: 1, Left: "5"}},
		{"say n", impl.Line{Op: 1, Left: "n"}},
		{"wait 5", impl.Line{Op: 2, Left: "5"}},
		{"wait n", impl.Line{Op: 2, Left: "n"}},
		{"on n", impl.Line{Op: 3, Name: "n"}},
		{"set n 5", impl.Line{Op: 4, Name: "n", Left: "5"}},
		{"set n m", impl.Line{Op: 4, Name: "n", Left: "m"}},
		{"set n 5 + m", impl.Line{Op: 4, Name: "n", Left: "5", Sign: "+", Right: "m"}},
		{"set n m - 5", impl.Line{Op: 4, Name: "n", Left: "m", Sign: "-", Right: "5"}},
		{"set n n * n", impl.Line{Op: 4, Name: "n", Left: "n", Sign: "*", Right: "n"}},
		{"if 5 < m there", impl.Line{Op: 5, Name: "there", Left: "5", Sign: "<", Right: "m"}},
		{"if m = -5 there", impl.Line{Op: 5, Name: "there", Left: "m", Sign: "=", Right: "-5"}},
		{"if m > m there", impl.Line{Op: 5, Name: "there", Left: "m", Sign: ">", Right: "m"}},
		{"goto there", impl.Line{Op: 6, Name: "there"}},
		{"label n", impl.Line{Op: 7, Name: "n"}},
		{"stop", impl.Line{Op: 8}},
		{"send n", impl.Line{Op: 9, Name: "n"}},
	}
}

// goodTerms and badTerms hold what may stand for a value, and what may not.
func goodTerms() []string {
	return []string{"0", "1", "-1", "9", "10", "999999999", "1000000000", "-1000000000", "-999999999", "n", "_", "_0", "Z9", longName, "say", "stop"}
}

func badTerms() []string {
	out := []string{
		"1000000001", "-1000000001", "9999999999", "00", "01", "-0", "-01", "007", "01000000000", "+1", "--1", "-", "1.0", "1e3", "0x1", "1_0", "1n", "-n",
		"9223372036854775808", "-9223372036854775809", "18446744073709551616", "99999999999999999999999", "+", "*", "<", "!n", "\"n\"", "n;", "١",
	}
	for _, name := range badNames() {
		if name != "1" {
			out = append(out, name)
		}
	}
	return out
}

// The document's forms of lines, as a pattern.
var forms = regexp.MustCompile(strings.NewReplacer(
	"NAME", `[A-Za-z_][A-Za-z0-9_]{0,19}`,
	"TERM", `(?:[A-Za-z_][A-Za-z0-9_]{0,19}|0|-?[1-9][0-9]{0,8}|-?1000000000)`,
).Replace(`\A(?:say TERM|wait TERM|on NAME|set NAME TERM|set NAME TERM [-+*] TERM|if TERM [<=>] TERM NAME|goto NAME|label NAME|stop|send NAME)\z`))

// The kinds of lines by their Op, and the fields in the order in which they are written.
var kindsOfLines = []string{"", "say L", "wait L", "on N", "set NLSR", "if LSRN", "goto N", "label N", "stop ", "send N"}

func fieldOf(x *impl.Line, letter rune) *string {
	switch letter {
	case 'N':
		return &x.Name
	case 'L':
		return &x.Left
	case 'S':
		return &x.Sign
	}
	return &x.Right
}

// slowLine reads a line by the pattern.
func slowLine(text string) (impl.Line, bool) {
	if !forms.MatchString(text) {
		return impl.Line{}, false
	}
	words := strings.Fields(text)
	for op, kind := range kindsOfLines {
		name, fields, _ := strings.Cut(kind, " ")
		if name != words[0] {
			continue
		}
		x := impl.Line{Op: op}
		for i, word := range words[1:] {
			*fieldOf(&x, rune(fields[i])) = word
		}
		return x, true
	}
	return impl.Line{}, false
}

// slowText writes a line as the fields stand in it, good or not.
func slowText(x impl.Line) string {
	if x.Op < 1 || x.Op > 9 {
		return ""
	}
	text, fields, _ := strings.Cut(kindsOfLines[x.Op], " ")
	for _, letter := range fields {
		if field := *fieldOf(&x, letter); field != "" {
			text += " " + field
		}
	}
	return text
}

// slowParse reads line by line, by the pattern.
func slowParse(text string) impl.Program {
	if len(text) > 3000 {
		return impl.Program{Wrong: 1}
	}
	var lines []impl.Line
	rows := strings.Split(text, "\n")
	for i, row := range rows[:len(rows)-1] {
		x, good := slowLine(row)
		twice := x.Op == 7 && slices.Contains(lines, x)
		if !good || i >= 80 || twice {
			return impl.Program{Wrong: i + 1}
		}
		lines = append(lines, x)
	}
	if rows[len(rows)-1] != "" {
		return impl.Program{Wrong: len(rows)}
	}
	if lost := slowLost(lines); lost >= 0 {
		return impl.Program{Wrong: lost + 1}
	}
	return impl.Program{Lines: lines}
}

// slowLost gives the first line that names a label that there is not, -1 where there is none.
func slowLost(lines []impl.Line) int {
	return slices.IndexFunc(lines, func(x impl.Line) bool {
		return (x.Op == 5 || x.Op == 6) && !slices.Contains(lines, impl.Line{Op: 7, Name: x.Name})
	})
}

// slowGoodProgram asks each line by itself, and each pair.
func slowGoodProgram(l []impl.Line) bool {
	good := len(l) <= 80 && slowLost(l) < 0
	for i, x := range l {
		read, is := slowLine(slowText(x))
		good = good && is && read == x
		good = good && !(x.Op == 7 && slices.Contains(l[:i], x))
	}
	return good
}

func wantProgram(t *testing.T, what string, text string, want impl.Program) {
	t.Helper()
	if got := purely(t, what, impl.ParseProgram, text); !alike(got[0], want) {
		t.Errorf("%s: %v, wanted %v", what, got[0], want)
	}
	if slow := slowParse(text); !alike(slow, want) {
		t.Errorf("%s: the pattern reads %v, wanted %v", what, slow, want)
	}
}

func wantWrong(t *testing.T, text string, number int) {
	t.Helper()
	what := fmt.Sprintf("%.80q", text)
	wantProgram(t, what, text, impl.Program{Wrong: number})
}

func wantText(t *testing.T, what string, l []impl.Line, want string, good bool) {
	t.Helper()
	if got := purely(t, what, impl.ProgramText, l); got[0] != want || got[1] != good {
		t.Errorf("%s: %q, wanted %q with %v", what, got, want, good)
	}
}

func wantRunning(t *testing.T, what string, got []any, want impl.Running, good bool) {
	t.Helper()
	if len(got) != 2 || !alike(got[0], want) || got[1] != good {
		t.Errorf("%s: %+v, wanted %+v with %v", what, got, want, good)
	}
}

func TestConstantsOfScripts(t *testing.T) {
	if impl.MaxScript != 3000 || impl.MaxLines != 80 || impl.MaxVars != 20 || impl.MaxBusy != 200 || impl.MaxSaid != 200 || impl.MaxValue != 1000000000 {
		t.Error(impl.MaxScript, impl.MaxLines, impl.MaxVars, impl.MaxBusy, impl.MaxSaid, impl.MaxValue)
	}
	ops := []int{impl.OpSay, impl.OpWait, impl.OpOn, impl.OpSet, impl.OpIf, impl.OpGoto, impl.OpLabel, impl.OpStop, impl.OpSend}
	if !slices.Equal(ops, []int{1, 2, 3, 4, 5, 6, 7, 8, 9}) {
		t.Error(ops)
	}
}

func TestParseProgramTold(t *testing.T) {
	there := impl.Line{Op: 7, Name: "there"}
	wantProgram(t, "the empty text", "", impl.Program{})
	for _, c := range toldLines() {
		lines := []impl.Line{c.line, there}
		wantProgram(t, c.text, c.text+"\nlabel there\n", impl.Program{Lines: lines})
		wantText(t, c.text, lines, c.text+"\nlabel there\n", true)
		lines = []impl.Line{there, c.line}
		wantProgram(t, c.text, "label there\n"+c.text+"\n", impl.Program{Lines: lines})
		wantText(t, c.text, lines, "label there\n"+c.text+"\n", true)
	}
	wantText(t, "no lines", nil, "", true)
}

func TestLinesThatAreNone(t *testing.T) {
	for _, c := range toldLines() {
		rows := []string{
			c.text[:max(strings.LastIndex(c.text, " "), 0)], c.text + " 1", c.text + " n", " " + c.text, c.text + " ", "\t" + c.text, c.text + "\r", c.text + "\x00",
			c.text + ";", strings.ToUpper(c.text), c.text + " # why", c.text[1:], "x" + c.text, c.text + "-", "\xef\xbb\xbf" + c.text, c.text + " + 1 + 1",
		}
		for at, b := range c.text {
			if b == ' ' {
				ahead, behind := c.text[:at], c.text[at+1:]
				rows = append(rows, ahead+"  "+behind, ahead+"\t"+behind, ahead+behind, ahead+","+behind)
			}
		}
		for _, row := range rows {
			wantWrong(t, row+"\nlabel there\n", 1)
			wantWrong(t, "label there\n"+row+"\nstop\n", 2)
		}
	}
	for _, row := range []string{"", " ", "  ", "s", "say", "wait", "on", "set", "set n", "if", "if 1", "if 1 <", "if 1 < 2", "goto", "label", "send", "stop stop", "stop 1",
		"set n +", "set n 1 +", "set n + 1", "set n 1 + 2 + 3", "set n 1 2", "if 1 < 2 n n", "if n", "if 1 < n", "say 1 2", "say 1 + 2", "wait 1 1", "on 5", "on n n",
		"set 5 5", "set 5 n", "goto 5", "label 5", "send 5", "send", "run n", "Say 5", "# n", "=", "halt", "9 n", "if 1 < 2 3", "else", "end"} {
		wantWrong(t, row+"\n", 1)
		wantWrong(t, "label n\nstop\n"+row+"\nstop\n", 3)
	}
}

// Each place of a term and of a name takes all that may stand there, and nothing else.
func TestTermsAndNames(t *testing.T) {
	ask := func(row string, good bool) {
		t.Helper()
		text := "label there\n" + row + "\n"
		p := impl.ParseProgram(text)
		if slow := slowParse(text); !alike(p, slow) {
			t.Errorf("%.90q: %v, wanted %v", row, p, slow)
		}
		if (p.Wrong == 0) != good {
			t.Errorf("%.90q: wrong %d", row, p.Wrong)
		}
		if good {
			wantText(t, row, p.Lines, text, true)
		}
	}
	for _, form := range []string{"say ?", "wait ?", "set n ?", "set n ? + 1", "set n 1 + ?", "if ? < 1 there", "if 1 < ? there"} {
		for _, term := range goodTerms() {
			ask(strings.Replace(form, "?", term, 1), true)
		}
		for _, term := range badTerms() {
			ask(strings.Replace(form, "?", term, 1), false)
		}
	}
	for _, form := range []string{"on ?", "set ? 1", "set ? 1 + 1", "label ?", "send ?"} {
		for _, name := range []string{"n", "_", "Z", "z9", "_1", longName, "say", "stop", "label", "on"} {
			ask(strings.Replace(form, "?", name, 1), true)
		}
		for _, name := range append(badTerms(), "0", "5", "-5", "1000000000") {
			ask(strings.Replace(form, "?", name, 1), false)
		}
	}
	for _, form := range []string{"goto ?", "if 1 < 1 ?"} {
		ask(strings.Replace(form, "?", "there", 1), true)
		for _, name := range append(badTerms(), "0", "5", "There", "ther", "theree") {
			ask(strings.Replace(form, "?", name, 1), false)
		}
	}
}

func TestSigns(t *testing.T) {
	signs := []string{"+", "-", "*", "<", "=", ">", "/", "%", "==", "<=", ">=", "!=", "<>", "+-", "-*", "+-*", "<=>", "=>", "", "&", "x", "0", "−"}
	for _, sign := range signs {
		reckons := strings.Contains(" + - * ", " "+sign+" ") && sign != ""
		compares := strings.Contains(" < = > ", " "+sign+" ") && sign != ""
		if p := impl.ParseProgram("set n 1 " + sign + " 2\n"); (p.Wrong == 0) != reckons {
			t.Errorf("set by %q: %v", sign, p)
		}
		if p := impl.ParseProgram("label n\nif 1 " + sign + " 2 n\n"); (p.Wrong == 0) != compares {
			t.Errorf("if by %q: %v", sign, p)
		}
		l := []impl.Line{{Op: 4, Name: "n", Left: "1", Sign: sign, Right: "2"}}
		if _, good := impl.ProgramText(l); good != reckons {
			t.Errorf("a line set by %q: %v", sign, good)
		}
		l = []impl.Line{{Op: 7, Name: "n"}, {Op: 5, Name: "n", Left: "1", Sign: sign, Right: "2"}}
		if _, good := impl.ProgramText(l); good != compares {
			t.Errorf("a line if by %q: %v", sign, good)
		}
	}
}

// longText gives a program's text of 2967 bytes and as many more as rest, from 31 on.
func longText(rest int) string {
	row := "set " + longName + " " + longName + " + " + longName + "\n"
	return strings.Repeat(row, 43) + "set n " + longName + " + " + longName[:rest-30] + "\n"
}

func TestProgramsAtTheLimits(t *testing.T) {
	for rest := 31; rest < 50; rest++ {
		text := longText(rest)
		var lines []impl.Line
		for row := range strings.Lines(text) {
			x, good := slowLine(strings.TrimSuffix(row, "\n"))
			if !good {
				t.Fatal(row)
			}
			lines = append(lines, x)
		}
		if len(text) <= 3000 {
			wantProgram(t, "a long text", text, impl.Program{Lines: lines})
			wantText(t, "a long text", lines, text, true)
		} else {
			wantWrong(t, text, 1)
			wantText(t, "a text too long", lines, "", false)
			if _, good := impl.StartProgram(lines, nil); !good {
				t.Error("a program whose text is too long is none")
			}
		}
	}
	if len(longText(33)) != 3000 {
		t.Error("no text of just MaxScript bytes was tried", len(longText(33)))
	}
	wantWrong(t, strings.Repeat("x", 3001), 1)
	wantWrong(t, strings.Repeat("stop\n", 40)+strings.Repeat(" ", 3000), 1)
	wantWrong(t, strings.Repeat("stop\n", 40)+strings.Repeat(" ", 2800), 41)
	for many := 78; many < 84; many++ {
		lines := slices.Repeat([]impl.Line{{Op: 8}}, many)
		text := strings.Repeat("stop\n", many)
		if many <= 80 {
			wantProgram(t, "many lines", text, impl.Program{Lines: lines})
			wantText(t, "many lines", lines, text, true)
		} else {
			wantWrong(t, text, 81)
			wantText(t, "too many lines", lines, "", false)
		}
		if _, good := impl.StartProgram(lines, nil); good != (many <= 80) {
			t.Error(many, "lines are a program:", good)
		}
	}
}

func TestWhichFaultCounts(t *testing.T) {
	stops := func(many int) string { return strings.Repeat("stop\n", many) }
	for _, c := range []struct {
		text  string
		wrong int
	}{
		{"stop", 1},
		{"stop\nstop", 2},
		{"stop\nx", 2},
		{"\n", 1},
		{"\n\n", 1},
		{"stop\n\n", 2},
		{"\nstop\n", 1},
		{"stop\n\nstop\n", 2},
		{" ", 1},
		{"stop\n ", 2},
		{"stop\n\r\n", 2},
		{"label a\nlabel a\n", 2},
		{"label a\nlabel b\nstop\nlabel b\nlabel a\n", 4},
		{"label a\nlabel A\n", 0},
		{"label a\non a\nset a a\nsend a\nlabel aa\n", 0},
		{"goto a\n", 1},
		{"stop\ngoto a\nlabel b\n", 2},
		{"goto b\nif 1 = 1 b\nlabel b\n", 0},
		{"label b\ngoto b\nif 1 = 1 c\ngoto d\n", 3},
		{"label b\ngoto c\nif 1 = 1 c\n", 2},
		{"set a 1\non a\nsend a\ngoto a\n", 4},
		// What a line is by itself counts ahead of labels that there are not.
		{"goto a\nnothing\n", 2},
		{"goto a\nstop", 2},
		{"goto a\nlabel b\nlabel b\n", 3},
		{"goto a\n" + stops(80), 81},
		{"goto a\n" + stops(79), 1},
		{"if 1 < 2 a\nstop\n\n", 3},
		// Of those the first one.
		{"label a\nlabel a\nnothing\n", 2},
		{"label a\nnothing\nlabel a\n", 2},
		{"nothing\nlabel a\nlabel a", 1},
		{"label a\nlabel a\nstop", 2},
		{stops(30) + "nothing\n" + stops(60), 31},
		{stops(80) + "nothing\n", 81},
		{stops(80) + "stop", 81},
		{stops(80) + "\n", 81},
		{stops(79) + "nothing\nstop\n", 80},
		{stops(79) + "stop", 80},
		{"label a\n" + stops(79) + "label a\n", 81},
		{"label a\n" + stops(78) + "label a\nstop\n", 80},
		{stops(80) + "label a\n", 81},
		{"goto a\n" + stops(79) + "label a\n", 81},
		{"goto a\n" + stops(78) + "label a\n", 0},
		{stops(79) + "goto a\n", 80},
	} {
		got := purely(t, "ParseProgram", impl.ParseProgram, c.text)[0].(impl.Program)
		if got.Wrong != c.wrong || c.wrong != 0 && len(got.Lines) != 0 || !alike(got, slowParse(c.text)) {
			t.Errorf("%.70q: %v, wanted wrong %d", c.text, got, c.wrong)
		}
	}
}

// badPrograms holds lists of lines that are no programs, in each way that the document names.
func badPrograms() map[string][]impl.Line {
	there, stop := impl.Line{Op: 7, Name: "there"}, impl.Line{Op: 8}
	return map[string][]impl.Line{
		"a line of noughts":      {{}},
		"Op 0":                   {{Op: 0, Left: "5"}},
		"Op below 0":             {{Op: -1}},
		"Op beyond":              {{Op: 10, Name: "n"}},
		"Op far below":           {{Op: math.MinInt}},
		"Op far beyond":          {{Op: math.MaxInt}},
		"say nothing":            {{Op: 1}},
		"say two words":          {{Op: 1, Left: "5 5"}},
		"say two lines":          {{Op: 1, Left: "5\nstop"}},
		"say with a name":        {{Op: 1, Left: "5", Name: "n"}},
		"say by Name":            {{Op: 1, Name: "n"}},
		"say with a sign":        {{Op: 1, Left: "5", Sign: "+"}},
		"say with two terms":     {{Op: 1, Left: "5", Right: "5"}},
		"wait with all":          {{Op: 2, Left: "5", Sign: "+", Right: "5"}},
		"wait by Right":          {{Op: 2, Right: "5"}},
		"on nothing":             {{Op: 3}},
		"on a number":            {{Op: 3, Name: "5"}},
		"on with a term":         {{Op: 3, Name: "n", Left: "5"}},
		"set nothing":            {{Op: 4}},
		"set without a term":     {{Op: 4, Name: "n"}},
		"set without a name":     {{Op: 4, Left: "5"}},
		"set a number":           {{Op: 4, Name: "5", Left: "5"}},
		"set without a sign":     {{Op: 4, Name: "n", Left: "5", Right: "5"}},
		"set without a right":    {{Op: 4, Name: "n", Left: "5", Sign: "+"}},
		"set without a left":     {{Op: 4, Name: "n", Sign: "+", Right: "5"}},
		"set by all in one":      {{Op: 4, Name: "n", Left: "5 + 5"}},
		"set by a sign of if":    {{Op: 4, Name: "n", Left: "5", Sign: "<", Right: "5"}},
		"set beyond":             {{Op: 4, Name: "n", Left: "1000000001"}},
		"if without a sign":      {there, {Op: 5, Name: "there", Left: "5", Right: "5"}},
		"if without a left":      {there, {Op: 5, Name: "there", Sign: "<", Right: "5"}},
		"if without a right":     {there, {Op: 5, Name: "there", Left: "5", Sign: "<"}},
		"if without a label":     {there, {Op: 5, Left: "5", Sign: "<", Right: "5"}},
		"if by a sign of set":    {there, {Op: 5, Name: "there", Left: "5", Sign: "+", Right: "5"}},
		"if to no label":         {there, {Op: 5, Name: "here", Left: "5", Sign: "<", Right: "5"}},
		"goto nothing":           {{Op: 6}},
		"goto no label":          {{Op: 6, Name: "n"}, {Op: 3, Name: "n"}},
		"goto no label, last":    {there, stop, {Op: 6, Name: "n"}},
		"goto with a term":       {there, {Op: 6, Name: "there", Left: "5"}},
		"label nothing":          {{Op: 7}},
		"label of a number":      {{Op: 7, Name: "5"}},
		"label with a sign":      {{Op: 7, Name: "n", Sign: "+"}},
		"a label twice":          {there, there},
		"a label twice, last":    {there, stop, there},
		"stop with a name":       {{Op: 8, Name: "n"}},
		"stop with a term":       {{Op: 8, Left: "5"}},
		"stop with a right":      {{Op: 8, Right: "5"}},
		"send nothing":           {{Op: 9}},
		"send a number":          {{Op: 9, Name: "5"}},
		"send with a !":          {{Op: 9, Name: "!n"}},
		"send with a term":       {{Op: 9, Name: "n", Left: "5"}},
		"a name too long":        {{Op: 9, Name: longName + "z"}},
		"the last of three":      {stop, stop, {Op: 9}},
		"one line too many":      slices.Repeat([]impl.Line{stop}, 81),
		"very many lines":        slices.Repeat([]impl.Line{stop}, 3000),
		"needless noughts":       {{Op: 1, Left: "05"}},
		"a nought with a sign":   {{Op: 1, Left: "-0"}},
		"a plus ahead":           {{Op: 1, Left: "+5"}},
		"a number beyond an int": {{Op: 2, Left: "99999999999999999999"}},
	}
}

// smallRows holds a line of each kind, and runs for a while.
const smallRows = "set n 3/label top/say n/wait 2/set n n - 1/if n > 0 top/send done/on go/label more/set n n + 5/say n/wait n/if n < 20 more/stop/say 9/label last/goto top"

// goodRunnings holds runnings of smallRows that stand just at the limits, and ordinary ones.
func goodRunnings() map[string]impl.Running {
	return map[string]impl.Running{
		"noughts":             {},
		"At the last line":    {At: 16},
		"At behind the last":  {At: 17},
		"At an on":            {At: 7, Now: 3, Vars: varsOf("n=4"), Said: []string{"1"}},
		"Now at the end":      {Now: lastTime},
		"Until one above Now": {Now: 5, Until: 6},
		"Until 1":             {Until: 1},
		"Until far":           {Until: lastTime + mostValue},
		"Until at the limit":  {Now: lastTime, Until: lastTime + mostValue},
		"Until above the end": {Now: lastTime, Until: lastTime + 1},
		"one var":             {Vars: varsOf("n=-1000000000")},
		"the most vars":       {Vars: manyVars(20)},
		"vars by bytes":       {Vars: varsOf("A=1", "Z=1000000000", "_", "a", "a1", "aa", "ab", longName+"=3")},
		"the most said":       {Said: manyTexts(200)},
		"said of any texts":   {Said: []string{"", "!", "x y\n", "\xff", strings.Repeat("long", 10000), "-0"}},
		"Stop 1":              {Stop: 1},
		"Stop 2":              {Stop: 2},
		"Stop 3":              {Stop: 3, Until: 4},
		"Stop 4":              {At: 17, Now: 3, Until: 4, Stop: 4},
		"all of it":           {At: 17, Now: lastTime, Until: lastTime + mostValue, Vars: manyVars(20), Said: manyTexts(200), Stop: 4},
	}
}

// badRunnings holds what is no running of smallRows, in each way that the document names.
func badRunnings() map[string]impl.Running {
	out := map[string]impl.Running{
		"At below 0":            {At: -1},
		"At beyond":             {At: 18},
		"At far below":          {At: math.MinInt},
		"At far beyond":         {At: math.MaxInt},
		"Now below 0":           {Now: -1},
		"Now beyond":            {Now: lastTime + 1},
		"Now beyond, waiting":   {Now: lastTime + 1, Until: lastTime + 2},
		"Now far below":         {Now: math.MinInt},
		"Now far beyond":        {Now: math.MaxInt},
		"Until at Now":          {Now: 5, Until: 5},
		"Until below Now":       {Now: 5, Until: 4},
		"Until below Now, 1":    {Now: 5, Until: 1},
		"Until below 0":         {Until: -1},
		"Until at the end":      {Now: lastTime, Until: lastTime},
		"Until beyond":          {Until: lastTime + mostValue + 1},
		"Until beyond, late":    {Now: lastTime, Until: lastTime + mostValue + 1},
		"Until far below":       {Until: math.MinInt},
		"Until far beyond":      {Until: math.MaxInt},
		"one text too many":     {Said: manyTexts(201)},
		"Stop below 0":          {Stop: -1},
		"Stop beyond":           {Stop: 5},
		"Stop far below":        {Stop: math.MinInt},
		"Stop far beyond":       {Stop: math.MaxInt},
		"stopped and At beyond": {At: 18, Stop: 1},
	}
	for what, vars := range badVars() {
		out[what] = impl.Running{Vars: vars}
	}
	return out
}

// badVars holds vars that may stand in no running.
func badVars() map[string][]impl.Var {
	out := map[string][]impl.Var{
		"one var too many":        manyVars(21),
		"a var twice":             varsOf("a=1", "a=1"),
		"a name twice":            varsOf("a=1", "a=2"),
		"names falling":           varsOf("b=1", "a=1"),
		"the last name twice":     varsOf("a=1", "b=1", "b=1"),
		"the last names falling":  varsOf("a=1", "c=1", "b=1"),
		"not by bytes":            varsOf("a=1", "B=1"),
		"a beginning behind":      varsOf("ab=1", "a=1"),
		"value below":             {{Name: "a", Value: -mostValue - 1}},
		"value beyond":            {{Name: "a", Value: mostValue + 1}},
		"value far below":         {{Name: "a", Value: math.MinInt}},
		"value far beyond":        {{Name: "a", Value: math.MaxInt}},
		"the last value beyond":   {{Name: "a", Value: mostValue}, {Name: "b", Value: mostValue + 1}},
		"the first value below":   {{Name: "a", Value: -mostValue - 1}, {Name: "b"}},
		"a var of noughts":        {{}},
		"a var of noughts, first": {{}, {Name: "b"}},
	}
	for _, name := range badNames() {
		out[fmt.Sprintf("the name %.30q", name)] = []impl.Var{{Name: name}}
	}
	return out
}

// slowGoodVars asks each var by itself, and each pair.
func slowGoodVars(vars []impl.Var) bool {
	good := len(vars) <= 20
	for i, v := range vars {
		good = good && slowGoodName(v.Name) && -1000000000 <= v.Value && v.Value <= 1000000000
		for _, before := range vars[:i] {
			good = good && strings.Compare(before.Name, v.Name) < 0
		}
	}
	return good
}

func slowGoodRunning(l []impl.Line, r impl.Running) bool {
	within := func(n int, least int, most int) bool { return least <= n && n <= most }
	waits := within(r.Until, r.Now+1, 1000100000)
	return slowGoodProgram(l) && within(r.At, 0, len(l)) && within(r.Now, 0, 100000) && (r.Until == 0 || waits) &&
		slowGoodVars(r.Vars) && len(r.Said) <= 200 && within(r.Stop, 0, 4)
}

func TestGoodRunningTold(t *testing.T) {
	l := linesOf(t, smallRows)
	for what, r := range goodRunnings() {
		if got := purely(t, what, impl.GoodRunning, l, r); got[0] != true || !slowGoodRunning(l, r) {
			t.Errorf("%s is not good", what)
		}
	}
	for what, r := range badRunnings() {
		if got := purely(t, what, impl.GoodRunning, l, r); got[0] != false || slowGoodRunning(l, r) {
			t.Errorf("%s is good", what)
		}
	}
	for what, l := range badPrograms() {
		if got := purely(t, what, impl.GoodRunning, l, impl.Running{}); got[0] != false || slowGoodProgram(l) {
			t.Errorf("a running of %s is good", what)
		}
	}
	for at := -1; at < 3; at++ {
		if got := impl.GoodRunning(nil, impl.Running{At: at}); got != (at == 0) {
			t.Error("of no lines, At", at, got)
		}
		if got := impl.GoodRunning(linesOf(t, "stop"), impl.Running{At: at}); got != (at == 0 || at == 1) {
			t.Error("of one line, At", at, got)
		}
	}
}

// One thing of a good running is made another.
func TestGoodRunningWithOneThingChanged(t *testing.T) {
	l := linesOf(t, smallRows)
	numbers := append(timeNumbers(), 3, 16, 17, 18, mostValue, -mostValue, mostValue+1, -mostValue-1, lastTime+mostValue-1, lastTime+mostValue, lastTime+mostValue+1)
	ask := func(what string, r impl.Running) {
		if got, want := impl.GoodRunning(l, r), slowGoodRunning(l, r); got != want {
			t.Errorf("%s: %v, and it is %v: %+v", what, got, want, r)
		}
	}
	for _, x := range numbers {
		for _, until := range []int{0, 6, 7, 12, lastTime, lastTime + 1, lastTime + mostValue} {
			vars := varsOf("a=1", "b=2", "c=3")
			vars[1].Value = x
			ask("At", impl.Running{At: x, Now: 5, Until: until})
			ask("Now", impl.Running{At: 2, Now: x, Until: until})
			ask("Stop", impl.Running{At: 2, Now: 5, Until: until, Stop: x})
			ask("Value", impl.Running{At: 2, Now: 5, Until: until, Vars: vars})
		}
		for _, now := range []int{0, 1, 5, 6, 7, lastTime - 1, lastTime} {
			ask("Until", impl.Running{Now: now, Until: x})
		}
	}
	for _, name := range append(badNames(), "a", "aa", "ab", "b", "bb", "c", "d", "A", "_", longName) {
		for at := range 3 {
			vars := varsOf("a=1", "b=2", "c=3")
			vars[at].Name = name
			ask("Name", impl.Running{Vars: vars})
		}
	}
	for many := range 24 {
		ask("Vars", impl.Running{Vars: manyVars(many)})
		ask("Said", impl.Running{Said: manyTexts(many + 180)})
	}
}

func TestStartProgram(t *testing.T) {
	for _, rows := range []string{"", "stop", "say 1/wait 2/say n", smallRows} {
		l := linesOf(t, rows)
		for what, r := range goodRunnings() {
			wantRunning(t, what, purely(t, what, impl.StartProgram, l, r.Vars), impl.Running{Vars: r.Vars}, true)
		}
		for what, vars := range badVars() {
			wantRunning(t, what, purely(t, what, impl.StartProgram, l, vars), impl.Running{}, false)
		}
	}
	for what, l := range badPrograms() {
		wantRunning(t, what, purely(t, what, impl.StartProgram, l, varsOf("a=1")), impl.Running{}, false)
	}
}

func TestRunProgramTold(t *testing.T) {
	said := func(texts ...string) []string { return texts }
	for _, c := range []struct {
		rows string
		r    impl.Running
		time int
		want impl.Running
	}{
		// Nothing to do.
		{"", impl.Running{}, 0, impl.Running{}},
		{"", impl.Running{}, lastTime, impl.Running{Now: lastTime}},
		{"say 1", impl.Running{At: 1, Now: 3, Said: said("x")}, 9, impl.Running{At: 1, Now: 9, Said: said("x")}},
		{"say 1", impl.Running{Now: lastTime}, lastTime, impl.Running{At: 1, Now: lastTime, Said: said("1")}},
		// Each kind.
		{"say 1/say -5/say n/say m", impl.Running{Vars: varsOf("n=7")}, 0, impl.Running{At: 4, Vars: varsOf("n=7"), Said: said("1", "-5", "7", "0")}},
		{"say 0/say 1000000000/say -1000000000", impl.Running{}, 0, impl.Running{At: 3, Said: said("0", "1000000000", "-1000000000")}},
		{"send n/send stop", impl.Running{Vars: varsOf("n=7")}, 2, impl.Running{At: 2, Now: 2, Vars: varsOf("n=7"), Said: said("!n", "!stop")}},
		{"set n 5/set m n/set o p", impl.Running{}, 0, impl.Running{At: 3, Vars: varsOf("m=5", "n=5", "o=0")}},
		{"set b 1/set a 2/set c 3/set B 4", impl.Running{}, 0, impl.Running{At: 4, Vars: varsOf("B=4", "a=2", "b=1", "c=3")}},
		{"set n n + 3/set n n * n/set n n - 10", impl.Running{Vars: varsOf("n=4")}, 0, impl.Running{At: 3, Vars: varsOf("n=39")}},
		{"set n 3 - 5/set m n * 2/set k m + n", impl.Running{}, 0, impl.Running{At: 3, Vars: varsOf("k=-6", "m=-4", "n=-2")}},
		{"label a/label b", impl.Running{}, 4, impl.Running{At: 2, Now: 4}},
		{"goto b/say 1/label b/say 2", impl.Running{}, 0, impl.Running{At: 4, Said: said("2")}},
		{"stop/say 1", impl.Running{}, 3, impl.Running{At: 2, Now: 3}},
		{"say 1/stop/say 2/say 3", impl.Running{}, 3, impl.Running{At: 4, Now: 3, Said: said("1")}},
		// if by each sign, below, alike and above.
		{"if 1 < 2 a/say 1/label a", impl.Running{}, 0, impl.Running{At: 3}},
		{"if 2 < 2 a/say 1/label a", impl.Running{}, 0, impl.Running{At: 3, Said: said("1")}},
		{"if 3 < 2 a/say 1/label a", impl.Running{}, 0, impl.Running{At: 3, Said: said("1")}},
		{"if 1 = 2 a/say 1/label a", impl.Running{}, 0, impl.Running{At: 3, Said: said("1")}},
		{"if 2 = 2 a/say 1/label a", impl.Running{}, 0, impl.Running{At: 3}},
		{"if 3 = 2 a/say 1/label a", impl.Running{}, 0, impl.Running{At: 3, Said: said("1")}},
		{"if 1 > 2 a/say 1/label a", impl.Running{}, 0, impl.Running{At: 3, Said: said("1")}},
		{"if 2 > 2 a/say 1/label a", impl.Running{}, 0, impl.Running{At: 3, Said: said("1")}},
		{"if 3 > 2 a/say 1/label a", impl.Running{}, 0, impl.Running{At: 3}},
		{"if n = m a/say 1/label a", impl.Running{}, 0, impl.Running{At: 3}},
		{"if n < 0 a/say 1/label a", impl.Running{Vars: varsOf("n=-1")}, 0, impl.Running{At: 3, Vars: varsOf("n=-1")}},
		{"label a/say n/set n n + 1/if n < 3 a", impl.Running{}, 0, impl.Running{At: 4, Vars: varsOf("n=3"), Said: said("0", "1", "2")}},
		// Waits.
		{"wait 3/say 1", impl.Running{}, 0, impl.Running{At: 1, Until: 3}},
		{"wait 3/say 1", impl.Running{}, 2, impl.Running{At: 1, Now: 2, Until: 3}},
		{"wait 3/say 1", impl.Running{}, 3, impl.Running{At: 2, Now: 3, Said: said("1")}},
		{"wait 3/say 1", impl.Running{}, 4, impl.Running{At: 2, Now: 4, Said: said("1")}},
		{"wait 3", impl.Running{}, 2, impl.Running{At: 1, Now: 2, Until: 3}},
		{"wait 3", impl.Running{}, 3, impl.Running{At: 1, Now: 3}},
		{"wait 3", impl.Running{}, 9, impl.Running{At: 1, Now: 9}},
		{"wait 1/say 1", impl.Running{}, 0, impl.Running{At: 1, Until: 1}},
		{"wait 0/say 1", impl.Running{}, 0, impl.Running{At: 2, Said: said("1")}},
		{"wait -1/say 1", impl.Running{}, 0, impl.Running{At: 2, Said: said("1")}},
		{"wait -1000000000/say 1", impl.Running{Now: 5}, 5, impl.Running{At: 2, Now: 5, Said: said("1")}},
		{"wait n/say 1", impl.Running{}, 0, impl.Running{At: 2, Said: said("1")}},
		{"wait n/say 1", impl.Running{Now: 5, Vars: varsOf("n=4")}, 8, impl.Running{At: 1, Now: 8, Until: 9, Vars: varsOf("n=4")}},
		{"wait 2/wait 3/say 1", impl.Running{}, 4, impl.Running{At: 2, Now: 4, Until: 5}},
		{"wait 2/wait 3/say 1", impl.Running{}, 5, impl.Running{At: 3, Now: 5, Said: said("1")}},
		{"wait 1000000000", impl.Running{Now: lastTime}, lastTime, impl.Running{At: 1, Now: lastTime, Until: lastTime + mostValue}},
		{"wait 1000000000", impl.Running{}, lastTime, impl.Running{At: 1, Now: lastTime, Until: mostValue}},
		{"wait 100000/say 1", impl.Running{}, lastTime - 1, impl.Running{At: 1, Now: lastTime - 1, Until: lastTime}},
		{"wait 100000/say 1", impl.Running{}, lastTime, impl.Running{At: 2, Now: lastTime, Said: said("1")}},
		{"say 1/say 2", impl.Running{At: 1, Now: 4, Until: 6}, 4, impl.Running{At: 1, Now: 4, Until: 6}},
		{"say 1/say 2", impl.Running{At: 1, Now: 4, Until: 6}, 5, impl.Running{At: 1, Now: 5, Until: 6}},
		{"say 1/say 2", impl.Running{At: 1, Now: 4, Until: 6}, 6, impl.Running{At: 2, Now: 6, Said: said("2")}},
		{"say 1/say 2", impl.Running{At: 2, Now: 4, Until: 6}, 5, impl.Running{At: 2, Now: 5, Until: 6}},
		{"say 1/say 2", impl.Running{At: 2, Now: 4, Until: 6}, 7, impl.Running{At: 2, Now: 7}},
		{"label a/say n/set n n + 1/wait 10/goto a", impl.Running{}, 25, impl.Running{At: 4, Now: 25, Until: 30, Vars: varsOf("n=3"), Said: said("0", "1", "2")}},
		// It stands at an on.
		{"on a/say 1", impl.Running{}, 7, impl.Running{Now: 7}},
		{"say 1/on a/say 2", impl.Running{}, 7, impl.Running{At: 1, Now: 7, Said: said("1")}},
		{"wait 2/on a", impl.Running{}, 1, impl.Running{At: 1, Now: 1, Until: 2}},
		{"wait 2/on a", impl.Running{}, 2, impl.Running{At: 1, Now: 2}},
		{"send a/on a/say 2", impl.Running{}, 7, impl.Running{At: 1, Now: 7, Said: said("!a")}},
		// It stands still for good.
		{"say 1", impl.Running{Stop: 1}, 5, impl.Running{Now: 5, Stop: 1}},
		{"say 1", impl.Running{Stop: 2, Until: 5}, 4, impl.Running{Now: 4, Until: 5, Stop: 2}},
		{"say 1", impl.Running{Stop: 3, Until: 5}, 5, impl.Running{Now: 5, Stop: 3}},
		{"say 1", impl.Running{Stop: 4, Until: 5}, 6, impl.Running{Now: 6, Stop: 4}},
		{"label a/goto a", impl.Running{}, 5, impl.Running{At: 1, Now: 5, Stop: 1}},
		{"wait 3/set n 1000000000 + 1/say 1", impl.Running{}, 5, impl.Running{At: 1, Now: 5, Stop: 2}},
		{"wait 3/set n 1000000000 + 1/say 1", impl.Running{}, 2, impl.Running{At: 1, Now: 2, Until: 3}},
	} {
		what := fmt.Sprintf("RunProgram %s, %+v, %d", c.rows, c.r, c.time)
		wantRunning(t, what, purely(t, what, impl.RunProgram, linesOf(t, c.rows), c.r, c.time), c.want, true)
	}
}

func TestRunProgramOfTheSmallOne(t *testing.T) {
	l := linesOf(t, smallRows)
	r, _ := impl.StartProgram(l, nil)
	r, _ = impl.RunProgram(l, r, 5)
	wantRunning(t, "to 5", []any{r, true}, impl.Running{At: 4, Now: 5, Until: 6, Vars: varsOf("n=1"), Said: []string{"3", "2", "1"}}, true)
	r, _ = impl.RunProgram(l, r, 50)
	wantRunning(t, "to 50", []any{r, true}, impl.Running{At: 7, Now: 50, Vars: varsOf("n=0"), Said: []string{"3", "2", "1", "!done"}}, true)
	r, _ = impl.TellEvent(l, r, "go")
	wantRunning(t, "told", []any{r, true}, impl.Running{At: 12, Now: 50, Until: 55, Vars: varsOf("n=5"), Said: []string{"3", "2", "1", "!done", "5"}}, true)
	r, _ = impl.RunProgram(l, r, 100)
	all := []string{"3", "2", "1", "!done", "5", "10", "15", "20"}
	wantRunning(t, "to 100", []any{r, true}, impl.Running{At: 17, Now: 100, Vars: varsOf("n=20"), Said: all}, true)
}

func TestRunProgramTimes(t *testing.T) {
	l := linesOf(t, smallRows)
	for what, r := range goodRunnings() {
		for _, time := range append(timeNumbers(), r.Now-1, r.Now, r.Now+1) {
			got := purely(t, what, impl.RunProgram, l, r, time)
			if time < r.Now || time > lastTime {
				wantRunning(t, what, got, impl.Running{}, false)
				continue
			}
			wantRunning(t, what, got, slowRunProgram(l, r, time), true)
		}
	}
	for _, time := range []int{-1, lastTime + 1} {
		wantRunning(t, "no lines", purely(t, "no lines", impl.RunProgram, []impl.Line(nil), impl.Running{}, time), impl.Running{}, false)
	}
}

// busyRows gives a program that does 199 lines and then the last ones.
func busyRows(last string) string {
	return "label a/set i i + 1/if i < 99 a/" + last
}

// At one going MaxBusy lines are done; with one more it stops, at that line.
func TestMaxBusy(t *testing.T) {
	at := func(at int, stop int, said ...string) impl.Running {
		return impl.Running{At: at, Now: 1, Vars: varsOf("i=99"), Said: said, Stop: stop}
	}
	late := at(4, 0)
	late.Now, late.Until = 7, 8
	for _, c := range []struct {
		last string
		time int
		want impl.Running
	}{
		{"say 1", 1, at(4, 0, "1")},
		{"say 1/say 2", 1, at(4, 1, "1")},
		{"say 1/label b", 1, at(4, 1, "1")},
		{"say 1/stop", 1, at(4, 1, "1")},
		{"say 1/goto a", 1, at(4, 1, "1")},
		{"say 1/if 1 < 0 a", 1, at(4, 1, "1")},
		{"say 1/set i 7", 1, at(4, 1, "1")},
		{"say 1/wait 1", 1, at(4, 1, "1")},
		{"say 1/wait 0", 1, at(4, 1, "1")},
		{"say 1/send i", 1, at(4, 1, "1")},
		{"say 1/set i 1000000000 + 1", 1, at(4, 1, "1")},
		// It stands still at an on, which is not done.
		{"say 1/on i/say 2", 1, at(4, 0, "1")},
		{"stop/say 1", 1, at(5, 0)},
		{"goto b/label b", 1, at(5, 0)},
		{"wait 0", 1, at(4, 0)},
		{"wait 0/label b", 1, at(4, 1)},
		{"wait 7", 7, late},
		// Behind a wait the lines are counted anew.
		{"wait 7/say 1/set i -50/goto a", 8, impl.Running{At: 2, Now: 8, Vars: varsOf("i=49"), Said: []string{"1"}, Stop: 1}},
		{"wait 7/say 1/set i 0/say 2/stop", 8, impl.Running{At: 8, Now: 8, Vars: varsOf("i=0"), Said: []string{"1", "2"}}},
	} {
		l := linesOf(t, busyRows(c.last))
		r := impl.Running{Now: 1}
		wantRunning(t, c.last, purely(t, c.last, impl.RunProgram, l, r, c.time), c.want, true)
		wantRunning(t, c.last+" again", purely(t, c.last, impl.RunProgram, l, c.want, c.time), c.want, true)
		if slow := slowRunProgram(l, r, c.time); !alike(slow, c.want) {
			t.Errorf("%s: the model comes to %+v", c.last, slow)
		}
	}
}

// In a loop of any length it is told how many lines were done: one ahead of the loop, and 199 in it.
func TestMaxBusyInLoops(t *testing.T) {
	for many := range 78 {
		rows := "label a/set n n + 1"
		for _, name := range manyNames(many) {
			rows += "/label " + name
		}
		l := linesOf(t, rows+"/goto a")
		want := impl.Running{At: 1 + 199%(many+2), Now: 3, Stop: 1}
		want.Vars = varsOf(fmt.Sprint("n=", (199+many+1)/(many+2)))
		wantRunning(t, rows, purely(t, rows, impl.RunProgram, l, impl.Running{}, 3), want, true)
	}
}

func TestSetAtTheLimits(t *testing.T) {
	for _, c := range []struct {
		rows string
		vars []impl.Var
		want []impl.Var
		stop int
	}{
		{"set n 999999999 + 1", nil, varsOf("n=1000000000"), 0},
		{"set n 1000000000 + 0", nil, varsOf("n=1000000000"), 0},
		{"set n 1000000000 + 1", nil, nil, 2},
		{"set n 1000000000 + 1000000000", nil, nil, 2},
		{"set n 0 - 1000000000", nil, varsOf("n=-1000000000"), 0},
		{"set n -999999999 - 1", nil, varsOf("n=-1000000000"), 0},
		{"set n -1000000000 - 1", nil, nil, 2},
		{"set n -1000000000 + -1", nil, nil, 2},
		{"set n 0 - -1000000000", nil, varsOf("n=1000000000"), 0},
		{"set n 1 - -1000000000", nil, nil, 2},
		{"set n 100000 * 10000", nil, varsOf("n=1000000000"), 0},
		{"set n -100000 * 10000", nil, varsOf("n=-1000000000"), 0},
		{"set n 11 * 90909091", nil, nil, 2},
		{"set n -11 * 90909091", nil, nil, 2},
		{"set n 1000000000 * 1000000000", nil, nil, 2},
		{"set n -1000000000 * 1000000000", nil, nil, 2},
		{"set n -1000000000 * -1", nil, varsOf("n=1000000000"), 0},
		{"set n 1000000000 * 0", nil, varsOf("n=0"), 0},
		{"set n n + 1", varsOf("n=1000000000"), varsOf("n=1000000000"), 2},
		{"set n n * n", varsOf("n=31622"), varsOf("n=999950884"), 0},
		{"set n n * n", varsOf("n=31623"), varsOf("n=31623"), 2},
		{"set n n - 1", varsOf("m=1", "n=-1000000000"), varsOf("m=1", "n=-1000000000"), 2},
		{"set n m", varsOf("m=-1000000000"), varsOf("m=-1000000000", "n=-1000000000"), 0},
		// New names.
		{"set x 1", manyVars(19), append(manyVars(19), varsOf("x=1")...), 0},
		{"set a 1", manyVars(19), append(varsOf("a=1"), manyVars(19)...), 0},
		{"set x 1", manyVars(20), manyVars(20), 3},
		{"set a 1", manyVars(20), manyVars(20), 3},
		{"set n055 1", manyVars(20), manyVars(20), 3},
		{"set x 0", manyVars(20), manyVars(20), 3},
		{"set n00 0", manyVars(20), manyVars(20), 0},
		{"set n19 x", manyVars(20), manyVars(20), 0},
		{"set x 1000000000 + 1", manyVars(20), manyVars(20), 2},
		{"set n00 1000000000 + 1", manyVars(20), manyVars(20), 2},
	} {
		l := linesOf(t, "label a/"+c.rows+"/label b")
		want := impl.Running{At: 3, Now: 4, Vars: c.want, Said: []string{"x"}, Stop: c.stop}
		if c.stop != 0 {
			want.At = 1
		}
		r := impl.Running{Now: 2, Vars: c.vars, Said: []string{"x"}}
		wantRunning(t, c.rows, purely(t, c.rows, impl.RunProgram, l, r, 4), want, true)
	}
}

func TestMaxSaid(t *testing.T) {
	for _, row := range []string{"say 5", "send n"} {
		text := map[string]string{"say 5": "5", "send n": "!n"}[row]
		l := linesOf(t, row+"/label a")
		for many := 196; many <= 200; many++ {
			r := impl.Running{Said: manyTexts(many)}
			want := impl.Running{At: 2, Said: append(manyTexts(many), text)}
			if many == 200 {
				want = impl.Running{Said: manyTexts(200), Stop: 4}
			}
			wantRunning(t, row, purely(t, row, impl.RunProgram, l, r, 0), want, true)
		}
		loop := linesOf(t, "label a/"+row+"/wait 1/goto a")
		want := impl.Running{At: 1, Now: 500, Said: slices.Repeat([]string{text}, 200), Stop: 4}
		wantRunning(t, "again and again", purely(t, row, impl.RunProgram, loop, impl.Running{}, 500), want, true)
	}
}

func TestTellEventTold(t *testing.T) {
	said := func(texts ...string) []string { return texts }
	for _, c := range []struct {
		rows string
		r    impl.Running
		name string
		want impl.Running
	}{
		{"on a/say 1", impl.Running{}, "a", impl.Running{At: 2, Said: said("1")}},
		{"on a/say 1", impl.Running{Now: 5}, "a", impl.Running{At: 2, Now: 5, Said: said("1")}},
		{"on a/say 1", impl.Running{Now: 5}, "b", impl.Running{Now: 5}},
		{"on a/say 1", impl.Running{}, "A", impl.Running{}},
		{"on a/say 1", impl.Running{}, "", impl.Running{}},
		{"on a/say 1", impl.Running{}, "!a", impl.Running{}},
		{"on a/say 1", impl.Running{}, "a ", impl.Running{}},
		{"on a/say 1", impl.Running{}, "aa", impl.Running{}},
		{"on a", impl.Running{}, "a", impl.Running{At: 1}},
		{"on a/on a/say 1", impl.Running{}, "a", impl.Running{At: 1}},
		{"on a/on b/say 1", impl.Running{At: 1}, "a", impl.Running{At: 1}},
		{"on a/on b/say 1", impl.Running{At: 1}, "b", impl.Running{At: 3, Said: said("1")}},
		{"on a/wait 3/say 1", impl.Running{Now: 5}, "a", impl.Running{At: 2, Now: 5, Until: 8}},
		{"on a/wait 0/say 1", impl.Running{Now: 5}, "a", impl.Running{At: 3, Now: 5, Said: said("1")}},
		{"on a/wait 1000000000", impl.Running{Now: lastTime}, "a", impl.Running{At: 2, Now: lastTime, Until: lastTime + mostValue}},
		// Where it is elsewhere nothing changes: not even what could be done now.
		{"say 1/on a", impl.Running{}, "a", impl.Running{}},
		{"label a/say 1", impl.Running{}, "a", impl.Running{}},
		{"send a/say 1", impl.Running{}, "a", impl.Running{}},
		{"on a", impl.Running{At: 1}, "a", impl.Running{At: 1}},
		{"", impl.Running{}, "a", impl.Running{}},
		// It waits, or stands still for good.
		{"wait 2/on a/say 1", impl.Running{At: 1, Until: 2}, "a", impl.Running{At: 1, Until: 2}},
		{"on a/say 1", impl.Running{Stop: 1}, "a", impl.Running{Stop: 1}},
		{"on a/say 1", impl.Running{Stop: 2}, "a", impl.Running{Stop: 2}},
		{"on a/say 1", impl.Running{Stop: 3}, "a", impl.Running{Stop: 3}},
		{"on a/say 1", impl.Running{Stop: 4, Until: 1}, "a", impl.Running{Stop: 4, Until: 1}},
		// By the event it may stop.
		{"on a/label b/goto b", impl.Running{}, "a", impl.Running{At: 2, Stop: 1}},
		{"on a/set n 1000000000 * 2", impl.Running{Now: 3}, "a", impl.Running{At: 1, Now: 3, Stop: 2}},
		{"on a/set n 1", impl.Running{Vars: manyVars(20)}, "a", impl.Running{At: 1, Vars: manyVars(20), Stop: 3}},
		{"on a/send n", impl.Running{Said: manyTexts(200)}, "a", impl.Running{At: 1, Said: manyTexts(200), Stop: 4}},
		{"label b/on a/say n/set n n + 1/goto b", impl.Running{At: 1}, "a", impl.Running{At: 1, Vars: varsOf("n=1"), Said: said("0")}},
	} {
		what := fmt.Sprintf("TellEvent %s, %+v, %q", c.rows, c.r, c.name)
		wantRunning(t, what, purely(t, what, impl.TellEvent, linesOf(t, c.rows), c.r, c.name), c.want, true)
	}
}

// The on by which it goes on is none of the lines at that going.
func TestMaxBusyAtAnEvent(t *testing.T) {
	l := linesOf(t, "on e/"+busyRows("say 1/on f"))
	want := impl.Running{At: 5, Vars: varsOf("i=99"), Said: []string{"1"}}
	wantRunning(t, "200 lines", purely(t, "200 lines", impl.TellEvent, l, impl.Running{}, "e"), want, true)
	l = linesOf(t, "on e/"+busyRows("say 1/say 2"))
	want.Stop = 1
	wantRunning(t, "201 lines", purely(t, "201 lines", impl.TellEvent, l, impl.Running{}, "e"), want, true)
}

func TestReloadTold(t *testing.T) {
	for _, c := range []struct {
		old string
		now string
		at  int
		to  int
	}{
		// The same again, behind a label, at it and ahead of all.
		{"say 1/label a/say 2/say 3", "say 1/label a/say 2/say 3", 4, 4},
		{"say 1/label a/say 2/say 3", "say 1/label a/say 2/say 3", 3, 3},
		{"say 1/label a/say 2/say 3", "say 1/label a/say 2/say 3", 2, 2},
		{"say 1/label a/say 2/say 3", "say 1/label a/say 2/say 3", 1, 1},
		{"say 1/label a/say 2/say 3", "say 1/label a/say 2/say 3", 0, 0},
		{"say 1/say 2/label a", "say 1/say 2/label a", 1, 0},
		{"say 1/say 2", "say 1/say 2", 2, 0},
		{"say 1/say 2/label a", "say 1/say 2/label a", 2, 2},
		{"say 1/say 2/label a", "say 1/say 2/label a", 3, 3},
		{"", "", 0, 0},
		{"", "say 1/label a", 0, 0},
		{"label a", "", 1, 0},
		// More and fewer lines behind the label and ahead of it.
		{"label a/say 1/say 2", "label a/say 1/say 2/say 3/say 4", 2, 2},
		{"label a/say 1/say 2", "label a/say 1/say 2/say 3/say 4", 3, 3},
		{"label a/say 1/say 2", "label a/say 1", 2, 2},
		{"label a/say 1/say 2", "label a/say 1", 3, 2},
		{"label a/say 1/say 2", "label a", 3, 1},
		{"label a/say 1/say 2", "label a", 1, 1},
		{"label a/say 1/say 2", "label a", 0, 0},
		{"label a/say 1/say 2", "say 7/say 8/label a/say 1/say 2", 2, 4},
		{"say 7/say 8/label a/say 1/say 2", "label a/say 1/say 2", 4, 2},
		{"say 7/say 8/label a/say 1/say 2", "label a/say 1/say 2", 1, 0},
		// The last of several labels, and labels in another order.
		{"label a/say 1/label b/say 2", "label b/say 2/say 3/label a/say 1", 3, 1},
		{"label a/say 1/label b/say 2", "label b/say 2/say 3/label a/say 1", 4, 2},
		{"label a/say 1/label b/say 2", "label b/say 2/say 3/label a/say 1", 2, 0},
		{"label a/say 1/label b/say 2", "label b/say 2/say 3/label a/say 1", 1, 4},
		{"label a/say 1/label b/say 2", "label b/say 2/say 3/label a/say 1", 0, 3},
		{"label a/label b/label c", "label c/label b/label a", 1, 1},
		{"label a/label b/label c", "label c/label b/label a", 3, 1},
		// So many lines behind it may be behind another label there.
		{"label a/say 1/say 2/say 3", "label a/label b/say 1/say 2/say 3", 3, 3},
		// Without that label.
		{"label a/say 1/label b/say 2", "say 0/label a/say 1/say 2", 3, 0},
		{"label a/say 1/label b/say 2", "say 0/label a/say 1/say 2", 1, 2},
		{"label a/say 1", "label A/say 1", 1, 0},
		{"label a/say 1", "say a/on a/send a", 2, 0},
		{"say 1/say 2", "label a/say 1/say 2", 1, 0},
		// What is named a is not always the label.
		{"on a/label a/send a/set a a", "send a/on a/label a/stop", 4, 4},
		{"on a/label a/send a/set a a", "send a/on a/label a/stop", 2, 3},
	} {
		old, now := linesOf(t, c.old), linesOf(t, c.now)
		for what, r := range goodRunnings() {
			r.At = c.at
			want := r
			want.At = c.to
			asked := fmt.Sprintf("Reload %s, %s, %d, %s", c.old, c.now, c.at, what)
			wantRunning(t, asked, purely(t, asked, impl.Reload, old, now, r), want, true)
			if !impl.GoodRunning(now, want) {
				t.Errorf("%s: it is not good then", asked)
			}
		}
	}
}

// What is refused: programs and runnings that are not good, in each function.
func TestScriptsThatAreNotGoodGiveNothing(t *testing.T) {
	l := linesOf(t, smallRows)
	for what, bad := range badPrograms() {
		wantText(t, what, bad, "", false)
		wantRunning(t, what, purely(t, what, impl.RunProgram, bad, impl.Running{}, 5), impl.Running{}, false)
		wantRunning(t, what, purely(t, what, impl.TellEvent, bad, impl.Running{}, "n"), impl.Running{}, false)
		wantRunning(t, what, purely(t, what, impl.Reload, bad, l, impl.Running{}), impl.Running{}, false)
		wantRunning(t, what, purely(t, what, impl.Reload, l, bad, impl.Running{}), impl.Running{}, false)
		wantRunning(t, what, purely(t, what, impl.Reload, bad, bad, impl.Running{}), impl.Running{}, false)
	}
	for what, bad := range badRunnings() {
		wantRunning(t, what, purely(t, what, impl.RunProgram, l, bad, max(0, min(bad.Now, lastTime))), impl.Running{}, false)
		wantRunning(t, what, purely(t, what, impl.RunProgram, l, bad, lastTime), impl.Running{}, false)
		wantRunning(t, what, purely(t, what, impl.TellEvent, l, bad, "go"), impl.Running{}, false)
		wantRunning(t, what, purely(t, what, impl.Reload, l, l, bad), impl.Running{}, false)
	}
	// A running that is good for the second program alone.
	short := linesOf(t, "label top")
	wantRunning(t, "Reload", purely(t, "Reload", impl.Reload, short, l, impl.Running{At: 2}), impl.Running{}, false)
	wantRunning(t, "Reload", purely(t, "Reload", impl.Reload, l, short, impl.Running{At: 2}), impl.Running{At: 1}, true)
}

// told is a running whose lines are words and whose vars lie in a map.
type told struct {
	rows [][]string
	vars map[string]int
	impl.Running
}

func toldOf(l []impl.Line, r impl.Running) *told {
	m := &told{vars: map[string]int{}, Running: r}
	for _, x := range l {
		m.rows = append(m.rows, strings.Fields(slowText(x)))
	}
	for _, v := range r.Vars {
		m.vars[v.Name] = v.Value
	}
	m.Said = slices.Clone(r.Said)
	return m
}

func (m *told) laid() impl.Running {
	r := m.Running
	r.Vars = nil
	for name, value := range m.vars {
		r.Vars = append(r.Vars, impl.Var{Name: name, Value: value})
	}
	slices.SortFunc(r.Vars, func(a impl.Var, b impl.Var) int { return strings.Compare(a.Name, b.Name) })
	return r
}

func (m *told) value(word string) int {
	if value, err := strconv.Atoi(word); err == nil {
		return value
	}
	return m.vars[word]
}

// behind gives the line behind a label.
func (m *told) behind(label string) int {
	return 1 + slices.IndexFunc(m.rows, func(words []string) bool { return words[0] == "label" && words[1] == label })
}

// next does the line that comes next, when so many are done; it tells whether one was done.
func (m *told) next(done int) bool {
	if m.Stop != 0 || m.Until != 0 || m.At == len(m.rows) || m.rows[m.At][0] == "on" {
		return false
	}
	words, at := m.rows[m.At], m.At+1
	set := func(value int) {
		_, there := m.vars[words[1]]
		switch {
		case value > 1000000000 || value < -1000000000:
			m.Stop = 2
		case !there && len(m.vars) == 20:
			m.Stop = 3
		default:
			m.vars[words[1]] = value
		}
	}
	switch kind := words[0] + strconv.Itoa(len(words)); {
	case done == 200:
		m.Stop = 1
	case (words[0] == "say" || words[0] == "send") && len(m.Said) == 200:
		m.Stop = 4
	case words[0] == "say":
		m.Said = append(m.Said, strconv.Itoa(m.value(words[1])))
	case words[0] == "send":
		m.Said = append(m.Said, "!"+words[1])
	case words[0] == "wait":
		if span := m.value(words[1]); span > 0 {
			m.Until = m.Now + span
		}
	case kind == "set3":
		set(m.value(words[2]))
	case kind == "set5":
		a, b := m.value(words[2]), m.value(words[4])
		set(map[string]int{"+": a + b, "-": a - b, "*": a * b}[words[3]])
	case kind == "if5":
		a, b := m.value(words[1]), m.value(words[3])
		if words[2] == "<" && a < b || words[2] == "=" && a == b || words[2] == ">" && a > b {
			at = m.behind(words[4])
		}
	case words[0] == "goto":
		at = m.behind(words[1])
	case words[0] == "stop":
		at = len(m.rows)
	}
	if m.Stop == 0 {
		m.At = at
	}
	return m.Stop == 0
}

func (m *told) goOn() {
	for done := 0; m.next(done); {
		done++
	}
}

// slowRunProgram goes through the time one by one.
func slowRunProgram(l []impl.Line, r impl.Running, time int) impl.Running {
	m := toldOf(l, r)
	m.goOn()
	for m.Now < time {
		m.Now++
		if m.Until == m.Now {
			m.Until = 0
			m.goOn()
		}
	}
	return m.laid()
}

func slowTell(l []impl.Line, r impl.Running, name string) impl.Running {
	m := toldOf(l, r)
	if m.Stop == 0 && m.Until == 0 && m.At < len(l) && l[m.At] == (impl.Line{Op: 3, Name: name}) {
		m.At++
		m.goOn()
	}
	return m.laid()
}

func slowReload(old []impl.Line, now []impl.Line, r impl.Running) impl.Running {
	label, behind := impl.Line{}, 0
	for at, x := range old {
		if x.Op == 7 && at <= r.At {
			label, behind = x, r.At-at
		}
	}
	there := slices.Index(now, label)
	if r.At = 0; label.Op == 7 && there >= 0 {
		r.At = min(there+behind, len(now))
	}
	return r
}

// coinRow deals numbers out of coins.
func coinRow(seed int) func(below int) int {
	return func(below int) int {
		var coin int
		seed, coin = impl.NextCoin(seed)
		return coin >> 3 % below
	}
}

// coinTerm gives a term out of coins: a name of few, a small value or one at a limit.
func coinTerm(next func(int) int) string {
	switch next(5) {
	case 0, 1:
		return fewNames[next(len(fewNames))]
	case 2, 3:
		return strconv.Itoa(next(9) - 3)
	}
	return []string{"1000000000", "-1000000000", "999999999", "40000", "-31623", "0", "100"}[next(7)]
}

// coinProgram makes the text of a program out of coins, with waits and events on its ways.
func coinProgram(seed int) string {
	next := coinRow(seed)
	var rows []string
	labels := pick(fewNames, 1+next(15))
	for range 1 + next(12) {
		name := fewNames[next(len(fewNames))]
		label := labels[next(len(labels))]
		rows = append(rows, []string{
			"say " + coinTerm(next),
			"send " + name,
			"wait " + coinTerm(next),
			"wait " + strconv.Itoa(1+next(5)),
			"on " + fewNames[next(2)],
			"set " + name + " " + coinTerm(next),
			"set " + name + " " + coinTerm(next) + " " + string("+-*"[next(3)]) + " " + coinTerm(next),
			"set " + name + " " + name + " " + string("+-*"[next(3)]) + " 2",
			"if " + coinTerm(next) + " " + string("<=>"[next(3)]) + " " + coinTerm(next) + " " + label,
			"goto " + label,
			"wait 2",
			[]string{"stop", "say 1", "say 2", "wait 1"}[next(4)],
		}[next(12)])
	}
	for _, label := range labels {
		rows = slices.Insert(rows, next(len(rows)+1), "label "+label)
	}
	return strings.Join(rows, "\n") + "\n"
}

// coinRunning makes a good running of so many lines out of coins.
func coinRunning(seed int, lines int) impl.Running {
	next := coinRow(seed)
	r := impl.Running{At: next(lines + 1), Now: next(30)}
	if next(3) == 0 {
		r.Until = r.Now + 1 + next(20)
	}
	if next(12) == 0 {
		r.Stop = next(5)
	}
	for _, name := range pick(fewNames, next(16)) {
		r.Vars = append(r.Vars, impl.Var{Name: name, Value: next(50) - 20})
	}
	if next(4) == 0 {
		r.Vars = append(r.Vars, manyVars(20-len(r.Vars)-next(2))...)
	}
	if next(4) == 0 {
		r.Said = manyTexts(200 - next(4))
	}
	return r
}

// Promise 6: programs come back from their text.
func TestProgramsComeBackFromTheirText(t *testing.T) {
	var texts []string
	for _, c := range toldLines() {
		texts = append(texts, c.text+"\nlabel there\n")
	}
	texts = append(texts, "", written(smallRows), longText(33), strings.Repeat("stop\n", 80))
	for seed := range 500 {
		texts = append(texts, coinProgram(seed+1))
	}
	for _, text := range texts {
		p := purely(t, text, impl.ParseProgram, text)[0].(impl.Program)
		if p.Wrong != 0 || !alike(p, slowParse(text)) {
			t.Fatalf("%q: wrong %d", text, p.Wrong)
		}
		wantText(t, text, p.Lines, text, true)
		for at, x := range p.Lines {
			if slowText(x) != strings.Split(text, "\n")[at] {
				t.Errorf("%q: line %d is %v", text, at, x)
			}
		}
	}
}

// Lines whose fields are anything: just what comes back is a program.
func TestAnyLinesThatAreAProgramComeBack(t *testing.T) {
	words := []string{"", "", "n", "5", "-5", "+", "<", "there", "05", "5 + 5", longName, longName + "z", "n\n", "é", "say", "1000000001"}
	good := 0
	for seed := range 6000 {
		next := coinRow(seed + 1)
		word := func() string { return words[next(len(words))] }
		x := impl.Line{Op: next(11)}
		for _, letter := range "NLSR" {
			if next(2) == 0 {
				*fieldOf(&x, letter) = word()
			}
		}
		l := []impl.Line{{Op: 7, Name: "there"}, x}
		text, ok := impl.ProgramText(l)
		if ok != slowGoodProgram(l) {
			t.Fatalf("%+v: %q, %v", l, text, ok)
		}
		if ok {
			good++
			wantProgram(t, text, text, impl.Program{Lines: l})
		}
	}
	if good < 50 {
		t.Error("hardly any good:", good)
	}
}

func TestRunsExactly(t *testing.T) {
	stops := map[int]int{}
	said, went := 0, 0
	for seed := range 300 {
		l := impl.ParseProgram(coinProgram(seed + 1)).Lines
		for i := range 4 {
			r := coinRunning(seed*4+i+1, len(l))
			if !slowGoodRunning(l, r) {
				t.Fatal("a running to try is not good", r)
			}
			for _, more := range []int{0, 1, 3, 10, 60} {
				what := fmt.Sprintf("RunProgram %v, %+v, %d", l, r, more)
				want := slowRunProgram(l, r, r.Now+more)
				got := purely(t, what, impl.RunProgram, l, r, r.Now+more)
				wantRunning(t, what, got, want, true)
				if !impl.GoodRunning(l, want) {
					t.Errorf("%s: it is not good then", what)
				}
				stops[want.Stop]++
				said += len(want.Said) - len(r.Said)
			}
			for _, name := range append([]string{"", "none"}, fewNames...) {
				what := fmt.Sprintf("TellEvent %v, %+v, %s", l, r, name)
				want := slowTell(l, r, name)
				wantRunning(t, what, purely(t, what, impl.TellEvent, l, r, name), want, true)
				if want.At != r.At {
					went++
				}
			}
		}
	}
	for stop := range 5 {
		if stops[stop] < 20 {
			t.Error("hardly any stopped by", stop, stops)
		}
	}
	if said < 5000 || went < 20 {
		t.Error("hardly anything was said or told:", said, went)
	}
}

// runScript runs on to each of the times.
func runScript(t *testing.T, l []impl.Line, r impl.Running, times ...int) impl.Running {
	t.Helper()
	for _, time := range times {
		then, good := impl.RunProgram(l, r, time)
		if !good {
			t.Fatalf("%v, %+v does not run to %d", l, r, time)
		}
		r = then
	}
	return r
}

// Promise 6: a run cut in pieces says the same.
func TestARunCutInPiecesSaysTheSame(t *testing.T) {
	ask := func(l []impl.Line, r impl.Running, time int) {
		atOnce := runScript(t, l, r, time)
		var each []int
		for cut := r.Now; cut <= time; cut++ {
			each = append(each, cut, cut)
			if got := runScript(t, l, r, cut, time); !alike(got, atOnce) {
				t.Fatalf("%v, %+v, cut at %d: %+v, at once %+v", l, r, cut, got, atOnce)
			}
		}
		if got := runScript(t, l, r, each...); !alike(got, atOnce) {
			t.Fatalf("%v, %+v, cut at each time: %+v, at once %+v", l, r, got, atOnce)
		}
	}
	ask(linesOf(t, smallRows), impl.Running{}, 60)
	ask(linesOf(t, smallRows), impl.Running{At: 8}, 60)
	ask(linesOf(t, "wait 5"), impl.Running{}, 8)
	ask(linesOf(t, "wait 5/on a/say 1"), impl.Running{}, 8)
	ask(linesOf(t, busyRows("wait 3/set i 0/goto a")), impl.Running{}, 30)
	ask(linesOf(t, busyRows("wait 3/say i/set i 1/goto a")), impl.Running{}, 30)
	ask(linesOf(t, "label a/wait 1/goto a"), impl.Running{Now: lastTime - 20}, lastTime)
	for _, r := range goodRunnings() {
		ask(linesOf(t, smallRows), r, min(r.Now+20, lastTime))
	}
	for seed := range 400 {
		l := impl.ParseProgram(coinProgram(seed + 1)).Lines
		r := coinRunning(seed+1, len(l))
		ask(l, r, r.Now+40)
		ask(l, impl.Running{}, 40)
	}
}

// A long run, with many waits, cut anywhere.
func TestALongRunCutInPiecesSaysTheSame(t *testing.T) {
	l := linesOf(t, "label a/set n n + 1/set k k + n/if k < 1000 b/set k k - 1000/label b/wait k/if n < 190 a/say k")
	atOnce := runScript(t, l, impl.Running{}, lastTime)
	if atOnce.At != len(l) || len(atOnce.Said) != 1 {
		t.Fatal(atOnce)
	}
	want := slowRunProgram(l, impl.Running{}, lastTime)
	wantRunning(t, "to the end", []any{atOnce, true}, want, true)
	for _, coin := range coins(6, 300) {
		cut := coin * 3
		if got := runScript(t, l, impl.Running{}, cut, lastTime); !alike(got, atOnce) {
			t.Fatalf("cut at %d: %+v", cut, got)
		}
	}
	round := linesOf(t, "label a/set n n + 1/wait 1/goto a")
	if r := runScript(t, round, impl.Running{}, 1, 777, lastTime); !alike(r, impl.Running{At: 3, Now: lastTime, Until: lastTime + 1, Vars: varsOf("n=100001")}) {
		t.Error(r)
	}
}

// Promise 6: a reload of the same program, behind a label, changes nothing.
func TestAReloadOfTheSameProgramChangesNothing(t *testing.T) {
	ask := func(l []impl.Line, r impl.Running) {
		first := slices.IndexFunc(l, func(x impl.Line) bool { return x.Op == 7 })
		for at := range len(l) + 1 {
			r.At = at
			want := r
			if first < 0 || at < first {
				want.At = 0
			}
			what := fmt.Sprintf("Reload %v, %+v", l, r)
			wantRunning(t, what, purely(t, what, impl.Reload, l, l, r), want, true)
		}
	}
	for _, rows := range []string{"", "say 1", "label a", "label a/stop", "say 1/label a/say 2/label b/say 3", "say 1/say 2", smallRows} {
		ask(linesOf(t, rows), impl.Running{Now: 3, Until: 5, Vars: varsOf("a=1", "n=2"), Said: []string{"1", "!x"}})
	}
	for seed := range 200 {
		l := impl.ParseProgram(coinProgram(seed + 1)).Lines
		ask(l, coinRunning(seed+1, len(l)))
	}
}

// A session of runs, events and reloads, held against the model step by step.
func TestSessionsExactly(t *testing.T) {
	moved := 0
	for seed := range 500 {
		next := coinRow(seed + 1)
		l := impl.ParseProgram(coinProgram(seed + 1)).Lines
		r, good := impl.StartProgram(l, coinRunning(seed+1, 0).Vars)
		if !good {
			t.Fatal(l)
		}
		for range 20 {
			var got []any
			var want impl.Running
			what := fmt.Sprintf("%v, %+v", l, r)
			switch next(5) {
			case 0, 1:
				name := fewNames[next(2)]
				got, want = purely(t, what, impl.TellEvent, l, r, name), slowTell(l, r, name)
			case 2, 3:
				time := r.Now + next(12)
				got, want = purely(t, what, impl.RunProgram, l, r, time), slowRunProgram(l, r, time)
			default:
				now := impl.ParseProgram(coinProgram(seed + next(5))).Lines
				got, want = purely(t, what, impl.Reload, l, now, r), slowReload(l, now, r)
				l = now
				if want.At != 0 {
					moved++
				}
			}
			wantRunning(t, what, got, want, true)
			r = want
		}
	}
	if moved < 100 {
		t.Error("hardly any reload found its label:", moved)
	}
}

// Promise 29: texts, lines and runnings of any kind; what is answered is what the document says of them.
func TestScriptsAnswerAtAnyArguments(t *testing.T) {
	numbers := append(timeNumbers(), mostValue, mostValue+1, -mostValue-1, lastTime+mostValue, lastTime+mostValue+1)
	goodOnes, badOnes := 0, 0
	for seed := range 1500 {
		next := coinRow(seed + 1)
		number := func() int { return numbers[next(len(numbers))] }
		text := []byte(coinProgram(seed + 1))
		for range next(3) {
			text[next(len(text))] = "\n 5-nz\x00\xff+<a"[next(11)]
		}
		p := purely(t, string(text), impl.ParseProgram, string(text))[0].(impl.Program)
		if want := slowParse(string(text)); !alike(p, want) {
			t.Fatalf("%q: %v, wanted %v", text, p, want)
		}
		l := impl.ParseProgram(coinProgram(seed + 1)).Lines
		other := impl.ParseProgram(coinProgram(seed + 2)).Lines
		r := coinRunning(seed+1, len(l))
		if next(2) == 0 {
			x := &l[next(len(l))]
			*fieldOf(x, rune("NLSR"[next(4)])) = append(badTerms(), goodTerms()...)[next(20)]
			x.Op = []int{x.Op, x.Op, next(11), number()}[next(4)]
		}
		switch next(8) {
		case 0:
			r.At = number()
		case 1:
			r.Now = number()
		case 2:
			r.Until = number()
		case 3:
			r.Stop = number()
		case 4:
			r.Vars = append(r.Vars, varsOf(coinTerm(next)+"=1")...)
		}
		good := slowGoodRunning(l, r)
		if got := purely(t, "GoodRunning", impl.GoodRunning, l, r); got[0] != good {
			t.Fatalf("GoodRunning %v %+v: %v", l, r, got)
		}
		time := number()
		var ran, heard, loaded impl.Running
		if good {
			goodOnes++
			heard, loaded = slowTell(l, r, "a"), slowReload(l, other, r)
		} else {
			badOnes++
		}
		runs := good && r.Now <= time && time <= lastTime
		if runs {
			ran = slowRunProgram(l, r, time)
		}
		wantRunning(t, "RunProgram", purely(t, "RunProgram", impl.RunProgram, l, r, time), ran, runs)
		wantRunning(t, "TellEvent", purely(t, "TellEvent", impl.TellEvent, l, r, "a"), heard, good)
		wantRunning(t, "Reload", purely(t, "Reload", impl.Reload, l, other, r), loaded, good)
		starts := slowGoodProgram(l) && slowGoodVars(r.Vars)
		started := impl.Running{}
		if starts {
			started.Vars = r.Vars
		}
		wantRunning(t, "StartProgram", purely(t, "StartProgram", impl.StartProgram, l, r.Vars), started, starts)
		purely(t, "ProgramText", impl.ProgramText, l)
	}
	if goodOnes < 200 || badOnes < 200 {
		t.Error("good", goodOnes, "bad", badOnes)
	}
}

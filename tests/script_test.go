package tests

import (
	"math/rand"
	"slices"
	"strconv"
	"strings"
	"testing"

	"loop.example/g01918/impl"
)

// plainState follows the document line by line; the commands themselves have tests of their own chapters.
type plainState struct {
	db       impl.Database
	query    impl.Query
	hasQuery bool
}

func plainLines(script string) []string {
	lines := strings.Split(script, "\n")
	if lines[len(lines)-1] == "" {
		lines = lines[:len(lines)-1]
	}
	return lines
}

func plainScript(script string) string {
	lines := plainLines(script)
	if len(script) > 3000 || len(lines) > 60 {
		return ""
	}
	var state plainState
	output := ""
	for _, line := range lines {
		if len(line) > 0 {
			output += state.answer(line) + "\n"
		}
	}
	return output
}

func (s *plainState) answer(line string) string {
	if space := strings.IndexByte(line, ' '); space >= 0 {
		return s.answerWith(line[:space], line[space+1:])
	}
	switch line {
	case "db":
		return databaseText(s.db)
	case "repairs":
		return strconv.Itoa(len(repairsInOrder(s.db)))
	case "spread":
		conflicts, surplus := impl.ConflictStatistics(s.db)
		return strconv.Itoa(conflicts) + " " + strconv.Itoa(surplus) + " " + strconv.Itoa(impl.InconsistencyMeasure(s.db))
	case "class", "attacks", "sure", "maybe", "share", "pure", "formula", "why":
		if !s.hasQuery {
			return "none"
		}
		return s.answerForQuery(line)
	}
	return "what"
}

func (s *plainState) answerForQuery(command string) string {
	q := question{s.db, s.query}
	text := ""
	switch command {
	case "class":
		return []string{"none", "first", "fix", "hard"}[plainClass(plainAttacks(schemaQuery{s.db.Relations, s.query}))]
	case "attacks":
		text = impl.FormatAttackGraph(s.db.Relations, s.query)
	case "sure":
		rows, _ := plainAnswers(q)
		text = impl.FormatRows(rows)
	case "maybe":
		_, rows := plainAnswers(q)
		text = impl.FormatRows(rows)
	case "share":
		fraction, _ := impl.SatisfyingFraction(s.db, s.query)
		return strconv.Itoa(fraction.Numerator) + "/" + strconv.Itoa(fraction.Denominator)
	case "pure":
		steps := plainPurification(q)
		s.db = steps[len(steps)-1]
		return "ok"
	case "formula":
		steps, ok := plainRewriting(schemaQuery{s.db.Relations, s.query})
		if !ok {
			return "no"
		}
		return rewritingText(s.db.Relations, steps)
	case "why":
		j, ok := plainCertainty(q)
		if !ok {
			return "rows"
		}
		return justificationText(s.db, j)
	}
	if text == "" {
		return "-"
	}
	return text
}

func (s *plainState) answerWith(command, argument string) string {
	switch command {
	case "db":
		db, ok := impl.ParseDatabase(argument)
		if !ok {
			return "no"
		}
		*s = plainState{db: db}
		return "ok"
	case "query":
		q, ok := impl.ParseQuery(s.db.Relations, argument)
		if !ok {
			return "no"
		}
		s.query, s.hasQuery = q, true
		return "ok"
	case "edit":
		e, ok := impl.ParseEdit(s.db, argument)
		if !ok {
			return "what"
		}
		if s.db, ok = plainEdit(s.db, e); !ok {
			return "no"
		}
		return "ok"
	case "repair":
		rank, err := strconv.Atoi(argument)
		if err != nil || strconv.Itoa(rank) != argument || len(strings.TrimPrefix(argument, "-")) > 9 {
			return "what"
		}
		if repairs := repairsInOrder(s.db); rank >= 0 && rank < len(repairs) {
			return impl.FormatFacts(s.db, repairs[rank])
		}
		return "no"
	}
	return "what"
}

// script joins the lines, each ended by a newline.
func script(lines ...string) string {
	return strings.Join(lines, "\n") + "\n"
}

// checkScript compares with the document and counts the lines of output.
func checkScript(t *testing.T, text string) string {
	t.Helper()
	got, again := impl.ExecuteScript(text), impl.ExecuteScript(text)
	if want := plainScript(text); got != want || again != got {
		t.Errorf("%q: %q, want %q", text, got, want)
	}
	if len(text) <= impl.MaxScriptBytes && len(plainLines(text)) <= impl.MaxScriptLines {
		isEmpty := func(line string) bool { return line == "" }
		if want := len(slices.DeleteFunc(plainLines(text), isEmpty)); strings.Count(got, "\n") != want || want > 0 && !strings.HasSuffix(got, "\n") {
			t.Errorf("%q: %q, want %d lines", text, got, want)
		}
	}
	return got
}

func TestScriptCommands(t *testing.T) {
	const db = "db r1/2 s1/2:r0|0 r0|1 r2|1 s0|5 s1|5 s1|6"
	for _, c := range []struct{ lines, want []string }{
		{[]string{"db", "repairs", "spread"}, []string{":", "1", "0 0 0"}},
		{[]string{db, "db", "repairs", "spread"}, []string{"ok", "r1/2 s1/2:r0|0 r0|1 r2|1 s0|5 s1|5 s1|6", "4", "2 2 66"}},
		{[]string{"db r1/2:", "db", "repairs", "spread", "repair 0"}, []string{"ok", "r1/2:", "1", "0 0 0", ""}},
		{[]string{db, "query ?rx|y sy|5", "class", "attacks", "sure", "maybe", "share", "formula", "why"},
			[]string{"ok", "ok", "first", "r>s", "-", "()", "3/4", "Ex Ay rx|y E A sy|5", "no r0|1 r2|1 s0|5 s1|6"}},
		{[]string{db, "query x?rx|y sy|z", "class", "attacks", "sure", "maybe", "share", "formula", "why"},
			[]string{"ok", "ok", "first", "r>s", "(0) (2)", "-", "1/1", "E Ay rx|y E Az sy|z", "rows"}},
		{[]string{db, "query xz?rx|y sy|z", "sure", "maybe", "share", "why"}, []string{"ok", "ok", "-", "(0,5) (0,6) (2,5) (2,6)", "1/1", "rows"}},
		{[]string{db, "query ?rx|y sy|x", "class", "attacks", "sure", "maybe", "share", "formula", "why", "pure", "db"},
			[]string{"ok", "ok", "fix", "r>s s>r", "-", "-", "0/1", "no", "no r0|0 r2|1 s0|5 s1|5", "ok", "r1/2 s1/2:"}},
		{[]string{"db r1/2 s1/2:r0|0 s0|0", "query ?rx|y sy|x", "why", "share", "sure", "maybe"},
			[]string{"ok", "ok", "yes {r0|0 s0|0} {r0|0}by1 {s0|0}by0 {}by0", "1/1", "()", "-"}},
		{[]string{"db r1/2 s1/2:r0|0 r0|1 s0|0 s1|1", "query ?rx|y sz|y", "class", "attacks", "formula", "why"},
			[]string{"ok", "ok", "hard", "r>>s s>>r", "no", "yes ()"}},
		{[]string{"db r1/2:r0|0 r0|1", "query ?rx|0", "attacks", "class", "share", "why"}, []string{"ok", "ok", "-", "first", "1/2", "no r0|1"}},
		{[]string{db, "query x?rx|y sy|6", "pure", "db", "share", "sure", "maybe"}, []string{"ok", "ok", "ok", "r1/2 s1/2:", "0/1", "-", "-"}},
		{[]string{"db r1/2 s1/2:r0|0 r0|1 r2|7 s0|5 s1|5 s1|6 s9|9", "query ?rx|y sy|z", "share", "pure", "db", "share", "pure", "query ?rx|y sy|5", "pure", "db", "class"},
			[]string{"ok", "ok", "1/1", "ok", "r1/2 s1/2:r0|0 r0|1 s0|5 s1|5 s1|6", "1/1", "ok", "ok", "ok", "r1/2 s1/2:", "first"}},
		{[]string{db, "repair 0", "repair 1", "repair 2", "repair 3", "repair 4", "repair -1", "repair 999999999", "repair 9999999999", "repair 01", "repair", "repair ", "repair x"},
			[]string{"ok", "r0|0 r2|1 s0|5 s1|5", "r0|0 r2|1 s0|5 s1|6", "r0|1 r2|1 s0|5 s1|5", "r0|1 r2|1 s0|5 s1|6", "no", "no", "no", "what", "what", "what", "what", "what"}},
		{[]string{db, "edit +r3|3", "edit +r3|3", "edit -r0|1", "edit -r0|1", "edit !s1|6", "edit !s1|6", "edit !s1|5", "db", "repairs"},
			[]string{"ok", "ok", "no", "ok", "no", "ok", "ok", "no", "r1/2 s1/2:r0|0 r2|1 r3|3 s0|5 s1|6", "1"}},
		{[]string{db, "edit r3|3", "edit +r33", "edit", "edit ", "edit +t1|1", "edit +r1|1 ", "edit  +r1|1", "edit ?r1|1", "db"},
			[]string{"ok", "what", "what", "what", "what", "what", "what", "what", "what", "r1/2 s1/2:r0|0 r0|1 r2|1 s0|5 s1|5 s1|6"}},
	} {
		if got := checkScript(t, script(c.lines...)); got != script(c.want...) {
			t.Errorf("%q: %q, want %q", c.lines, got, script(c.want...))
		}
	}
}

func TestScriptExample(t *testing.T) {
	if got := checkScript(t, "db r1/2:r1|2 r1|3\nrepairs"); got != "ok\n2\n" {
		t.Errorf("%q", got)
	}
	if impl.MaxScriptLines != 60 || impl.MaxScriptBytes != 3000 {
		t.Error(impl.MaxScriptLines, impl.MaxScriptBytes)
	}
}

// queryCommandNames need a query.
var queryCommandNames = []string{"class", "attacks", "sure", "maybe", "share", "pure", "formula", "why"}

// TestQueryThatBecomesUnsuitable sets another database, which removes the query, whether or not it fits.
func TestQueryThatBecomesUnsuitable(t *testing.T) {
	for _, next := range []string{"db s1/2:s0|0", "db r1/3:r0|00", "db :", "db r1/2 s1/2:r0|0 r0|1", "db r1/2 s1/2:r0|0"} {
		lines := append([]string{"db r1/2 s1/2:r0|0 r0|1", "query ?rx|y", next}, queryCommandNames...)
		want := append([]string{"ok", "ok", "ok"}, slices.Repeat([]string{"none"}, len(queryCommandNames))...)
		if got := checkScript(t, script(lines...)); got != script(want...) {
			t.Errorf("%s: %q", next, got)
		}
	}
	for _, c := range []struct{ line, answer string }{
		{"db", "r1/2 s1/2:r0|0 r0|1"}, {"db r1/2 s1/2:r0|1 r0|0", "no"}, {"db x", "no"}, {"db ", "no"}, {"query x", "no"}, {"query ?tx|y", "no"}, {"query ", "no"}, {"query", "what"},
		{"edit +s0|0", "ok"}, {"edit -r0|0", "ok"}, {"edit x", "what"}, {"repair 0", "r0|0"}, {"pure", "ok"}, {"", ""},
	} {
		output := checkScript(t, script("db r1/2 s1/2:r0|0 r0|1", "query ?rx|y", c.line, "class", "sure", "share", "why"))
		want := "ok\nok\n" + c.answer + "\nfirst\n()\n1/1\nyes Ex Ay rx|y\n"
		if output != want && (c.line != "" || output != strings.ReplaceAll(want, "\n\n", "\n")) {
			t.Errorf("%q: %q, want %q", c.line, output, want)
		}
	}
	before := append([]string{}, queryCommandNames...)
	if got := checkScript(t, script(before...)); got != script(slices.Repeat([]string{"none"}, len(before))...) {
		t.Errorf("without a query: %q", got)
	}
	if got := checkScript(t, script("db r1/2:r0|0", "query ?rx|y", "edit -r0|0", "share", "sure", "query x?rx|y", "sure", "why")); got != "ok\nok\nok\n0/1\n-\nok\n-\nrows\n" {
		t.Errorf("an edit removes the last fact: %q", got)
	}
}

func TestScriptLimits(t *testing.T) {
	long := strings.Repeat("x", 2998)
	for _, c := range []struct {
		name, script, want string
	}{
		{"nothing", "", ""}, {"a newline", "\n", ""}, {"60 newlines", strings.Repeat("\n", 60), ""}, {"60 lines", strings.Repeat("db\n", 60), strings.Repeat(":\n", 60)},
		{"60 lines without the last newline", strings.Repeat("db\n", 59) + "db", strings.Repeat(":\n", 60)}, {"61 lines", strings.Repeat("db\n", 61), ""},
		{"61 lines without the last newline", strings.Repeat("db\n", 60) + "db", ""}, {"60 lines and an empty one", strings.Repeat("db\n", 60) + "\n", ""},
		{"59 empty lines", strings.Repeat("\n", 59) + "db\n", ":\n"}, {"60 empty lines", strings.Repeat("\n", 60) + "db\n", ""}, {"59 empty lines at the end", "db\n" + strings.Repeat("\n", 59), ":\n"},
		{"60 empty lines at the end", "db\n" + strings.Repeat("\n", 60), ""}, {"3000 bytes", "\n" + long + "\n", "what\n"}, {"3000 bytes without a newline", "xx" + long, "what\n"},
		{"3000 bytes with a command", "db\n" + long[:2997], ":\nwhat\n"}, {"3001 bytes", "db\n" + long, ""}, {"3001 bytes with a newline", "\n\n" + long + "\n", ""}, {"3000 newlines", strings.Repeat("\n", 3000), ""},
		{"many bytes", strings.Repeat("db\n", 100000), ""}, {"one long line", "db " + strings.Repeat(" ", 2997), "no\n"}, {"a longer line", "db " + strings.Repeat(" ", 2998), ""},
	} {
		if got := checkScript(t, c.script); got != c.want {
			t.Errorf("%s: %q, want %q", c.name, got, c.want)
		}
	}
}

func TestLinesThatAreNoCommands(t *testing.T) {
	const db = "db r1/2:r0|0 r0|1\nquery ?rx|y\n"
	lines := []string{
		" ", "  ", " db", "db  ", "DB", "db\t", "db\r", "\r", "\x00", "\xff", "\xc3\xa9", "what", "repairs ", "spread 1", "class ", "attacks x", "sure x", "maybe ", "share 1", "pure ",
		"formula x", "why ", "why not", "query", "edit", "repair", "ok", "no", "none", "rows", "-", "0", "db:", "dbr1/2:", "query?rx|y", "repair0", "dB r1/2:", "exit", "help", "repair\t0", "repair  0",
	}
	for b := range 256 {
		if b != '\n' {
			lines = append(lines, string([]byte{byte(b)}))
		}
	}
	for _, line := range lines {
		want := "what"
		if strings.HasPrefix(line, "db ") {
			want = "no"
		}
		if got := checkScript(t, db+line+"\nrepairs\nclass\n"); got != "ok\nok\n"+want+"\n2\nfirst\n" {
			t.Errorf("%q: %q", line, got)
		}
	}
}

func TestScriptsWithOneByteChanged(t *testing.T) {
	for _, text := range []string{"db r1/2:r1|2 r1|3\nrepairs\n", "db r1/2:r0|1\n\nquery x?rx|y\nsure", "edit +r0|0\nrepair 0\n", "db r0/1:r|0\nedit !r|0\nquery ?rx\nwhy\npure\ndb"} {
		for _, changed := range oneByteEdits(text) {
			checkScript(t, changed)
		}
	}
}

// randomLine returns a line that often is a command that succeeds.
func randomLine(random *rand.Rand) string {
	pick := func(texts ...string) string { return texts[random.Intn(len(texts))] }
	value := func() string { return strconv.Itoa(random.Intn(3)) }
	switch random.Intn(12) {
	case 0:
		return "db " + databaseText(randomFacts(random, schema(pick("r1/2 s1/2", "r1/2 s1/2 t1/1", "r1/2 s1/2", "r2/2 s0/1"))))
	case 1, 2:
		return "query " + pick("?rx|y sy|z", "?rx|y sy|x", "x?rx|y sy|1", "xz?rx|y sy|z", "?rx|y sz|y", "?r0|x", "?rx|y sy|z tz", "y?rx|y", "?rxy", "?rx|x", "x", "?rx|y rx|z", "x?sy|x")
	case 3, 4:
		return "edit " + pick("+", "-", "!", "+", "") + pick("r", "s", "r", "s", "t", "q") + value() + pick("|", "|", "|", "") + value()
	case 5:
		return "repair " + pick("0", "1", "2", "3", "-1", "x", "00", "17", "")
	case 6:
		return pick("db", "repairs", "spread")
	case 7:
		return pick("", "what", " ", "db x", "sure maybe", "x y z")
	default:
		return queryCommandNames[random.Intn(len(queryCommandNames))]
	}
}

func TestOutputDoesNotDependOnLaterLines(t *testing.T) {
	random := rand.New(rand.NewSource(50))
	answers := map[string]int{}
	for range 700 {
		lines := []string{"db " + databaseText(randomFacts(random, schema("r1/2 s1/2"))), "query " + []string{"?rx|y sy|z", "x?rx|y sy|z", "?rx|y sy|x"}[random.Intn(3)]}
		for range random.Intn(20) {
			lines = append(lines, randomLine(random))
		}
		for len(strings.Join(lines, "\n")) > 2000 {
			lines = lines[:len(lines)-1]
		}
		output := checkScript(t, script(lines...))
		for k := range lines {
			if first := impl.ExecuteScript(script(lines[:k]...)); !strings.HasPrefix(output, first) && k > 0 {
				t.Errorf("%q: the output %q of the first %d lines is not the beginning of %q", lines, first, k, output)
			}
		}
		for line := range strings.Lines(output) {
			word, _, _ := strings.Cut(strings.TrimSuffix(line, "\n"), " ")
			answers[word]++
		}
	}
	for _, word := range []string{"ok", "no", "what", "none", "-", "()", "rows", "first", "fix", "yes", "1/1", "0/1", "Ex", "E"} {
		if answers[word] < 20 {
			t.Errorf("%q occurs %d times", word, answers[word])
		}
	}
}

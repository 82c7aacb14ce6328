package tests

import (
	"math/rand"
	"regexp"
	"slices"
	"strings"
	"testing"

	"loop.example/g01918/impl"
)

var databasePattern = regexp.MustCompile(`^(?:[a-z][0-3]/[1-3](?: [a-z][0-3]/[1-3]){0,3})?:(?:[a-z][0-9|]+(?: [a-z][0-9|]+){0,13})?$`)

// readDatabase accepts exactly the strings of valid databases, without the program.
func readDatabase(s string) (impl.Database, bool) {
	if !databasePattern.MatchString(s) {
		return impl.Database{}, false
	}
	head, body, _ := strings.Cut(s, ":")
	db := impl.Database{Relations: schema(head)}
	for i, r := range db.Relations {
		if r.KeyLength > r.Arity || i > 0 && db.Relations[i-1].Name >= r.Name {
			return impl.Database{}, false
		}
	}
	for _, text := range strings.Fields(body) {
		index := slices.IndexFunc(db.Relations, func(r impl.Relation) bool { return r.Name == text[:1] })
		if index < 0 {
			return impl.Database{}, false
		}
		f := fact(index)
		for _, digit := range strings.ReplaceAll(text[1:], "|", "") {
			f.Values = append(f.Values, int(digit-'0'))
		}
		if len(f.Values) != db.Relations[index].Arity || factText(db.Relations, f) != text {
			return impl.Database{}, false
		}
		db.Facts = append(db.Facts, f)
	}
	for i := 1; i < len(db.Facts); i++ {
		if wantOrder(db.Facts[i-1], db.Facts[i]) >= 0 {
			return impl.Database{}, false
		}
	}
	return db, true
}

func TestFormatDatabase(t *testing.T) {
	for _, s := range []string{":", "r1/2:", "r1/2:r1|2 r1|3", "r1/2 s2/2:r1|2 s34", "r0/1:r|3 r|4", "a0/3 b1/3 c2/3 d3/3:a|123 b1|23 c12|3 d123"} {
		if got := impl.FormatDatabase(database(s)); got != s {
			t.Errorf("FormatDatabase(%s) = %q", s, got)
		}
	}
	for _, db := range invalidDatabases() {
		if got := impl.FormatDatabase(db); got != "" {
			t.Errorf("FormatDatabase(%v) = %q", db, got)
		}
	}
	if got := impl.FormatDatabase(impl.Database{}); got != ":" {
		t.Errorf("the zero database: %q", got)
	}
}

func TestParseDatabaseInverse(t *testing.T) {
	for _, db := range validDatabases() {
		db = roomy(db)
		want := databaseText(db)
		check := watch(t, db)
		text := impl.FormatDatabase(db)
		if text != want {
			t.Fatalf("FormatDatabase = %q, want %q", text, want)
		}
		got, ok := impl.ParseDatabase(text)
		again, _ := impl.ParseDatabase(text)
		check(got, again)
		if !ok || !sameDatabase(got, db) || !sameDatabase(again, db) {
			t.Fatalf("ParseDatabase(%q) = %v, %v", text, got, ok)
		}
	}
}

func checkParseDatabase(t *testing.T, s string) bool {
	t.Helper()
	want, wantOK := readDatabase(s)
	got, ok := impl.ParseDatabase(s)
	if ok != wantOK || !sameDatabase(got, want) {
		t.Fatalf("ParseDatabase(%q) = %v, %v, want %v, %v", s, got, ok, want, wantOK)
	}
	return ok
}

func TestParseDatabaseNothingElse(t *testing.T) {
	accepted := 0
	texts := stringsOver("r1/2: |", 6)
	for _, head := range []string{":", "r1/2:", "r0/1:", "r2/2:", "r1/1 s0/1:", "r1/2 :", " r1/2:", "s1/2 r1/2:", "r1/1  s1/1:", "r1/1 r1/1:"} {
		for _, body := range stringsOver("rs1 |", 5) {
			texts = append(texts, head+body)
		}
	}
	for _, s := range []string{":", "r1/2:", "r1/2:r1|2 r1|3", "r1/2 s2/2:r1|2 s34", "r0/1:r|3 r|4", "a0/3 b1/3 c2/3 d3/3:a|123 b1|23 c12|3 d123"} {
		texts = append(texts, oneByteEdits(s)...)
		texts = append(texts, s+s, s+":", ":"+s, s+"\n", " "+s)
	}
	for _, db := range randomDatabases(60) {
		text := databaseText(db)
		for i := range len(text) + 1 {
			for _, b := range " :|/r1" {
				texts = append(texts, text[:i]+string(b)+text[i:])
			}
			if i < len(text) {
				texts = append(texts, text[:i]+text[i+1:], text[:i])
			}
		}
	}
	for _, s := range texts {
		if checkParseDatabase(t, s) {
			accepted++
		}
	}
	if accepted < 100 {
		t.Error("only", accepted, "accepted")
	}
}

func TestParseDatabaseSwappedParts(t *testing.T) {
	random := rand.New(rand.NewSource(6))
	for _, db := range randomDatabases(140) {
		parts := strings.Split(databaseText(db), " ")
		for range 10 {
			swapped := slices.Clone(parts)
			i, j := random.Intn(len(parts)), random.Intn(len(parts))
			swapped[i], swapped[j] = swapped[j], swapped[i]
			checkParseDatabase(t, strings.Join(swapped, " "))
			checkParseDatabase(t, strings.Join(append(swapped, swapped[i]), " "))
		}
	}
}

func TestParseDatabaseLimits(t *testing.T) {
	full := "r1/2:r0|0 r0|1 r0|2 r0|3 r0|4 r0|5 r0|6 r0|7 r0|8 r0|9 r1|0 r1|1 r1|2 r1|3"
	for s, want := range map[string]bool{
		full:                                   true,
		full + " r1|4":                         false,
		"a1/1 b1/1 c1/1 d1/1:":                 true,
		"a1/1 b1/1 c1/1 d1/1 e1/1:":            false,
		"r1/2:r1|9":                            true,
		"r1/2:r1|10":                           false,
		"r1/4:":                                false,
		"r3/2:":                                false,
		strings.Repeat(" ", 1<<20):             false,
		":" + strings.Repeat(" ", 1<<20):       false,
		strings.Repeat("r1/2 ", 1<<17):         false,
		"r1/2:" + strings.Repeat("r1|2 ", 1e5): false,
		strings.Repeat(":", 1<<20):             false,
	} {
		if got, ok := impl.ParseDatabase(s); ok != want || !ok && !isZeroDatabase(got) {
			t.Errorf("ParseDatabase of %d bytes = %v, %v", len(s), got, ok)
		}
	}
}

func TestParseDatabaseTrailingSpace(t *testing.T) {
	for _, s := range []string{":", "r1/2:", "r1/2:r1|2", "r1/2:r1|2 r1|3", "r1/2 s2/2:r1|2 s34"} {
		for _, bad := range []string{s + " ", " " + s, s + "  ", strings.Replace(s, ":", " :", 1), strings.Replace(s, ":", ": ", 1)} {
			if got, ok := impl.ParseDatabase(bad); ok || !isZeroDatabase(got) {
				t.Errorf("ParseDatabase(%q) = %v, %v", bad, got, ok)
			}
		}
	}
	for _, s := range []string{"", " ", "r1/2", "r1/2 ", "r1/2  s1/2:", "r1/2:r1|2  r1|3", "r1/2:r1|2 r1|1", "r1/2:r1|2 r1|2", "r1/2:s1|2", "s1/2 r1/2:", "::", "r1/2:r12", ":r1|2"} {
		if got, ok := impl.ParseDatabase(s); ok || !isZeroDatabase(got) {
			t.Errorf("ParseDatabase(%q) = %v, %v", s, got, ok)
		}
	}
}

func TestFormatFacts(t *testing.T) {
	eachIndexList(func(db impl.Database, indices []int, isValid bool) {
		want := ""
		if isValid {
			_, want, _ = strings.Cut(databaseText(part(db, indices)), ":")
		}
		check := watch(t, db, indices)
		if got := impl.FormatFacts(db, indices); got != want {
			t.Fatalf("FormatFacts(%s, %v) = %q, want %q", databaseText(db), indices, got, want)
		}
		check()
	})
	for _, db := range invalidDatabases() {
		if got := impl.FormatFacts(db, []int{0}); got != "" {
			t.Errorf("FormatFacts(%v) = %q", db, got)
		}
	}
	if got := impl.FormatFacts(database("r1/2:r0|0 r0|1 r2|0"), []int{0, 2}); got != "r0|0 r2|0" {
		t.Error(got)
	}
}

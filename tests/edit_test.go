package tests

import (
	"math"
	"math/rand"
	"slices"
	"strings"
	"testing"

	"loop.example/g01918/impl"
)

func edit(kind int, f impl.Fact) impl.Edit {
	return impl.Edit{Kind: kind, Fact: f}
}

func sameEdit(a, b impl.Edit) bool {
	return a.Kind == b.Kind && sameFact(a.Fact, b.Fact)
}

func isZeroEdit(e impl.Edit) bool {
	return e.Kind == 0 && isZeroFact(e.Fact)
}

// editKinds are the three kinds and others.
var editKinds = []int{math.MinInt, -1, 0, 1, 2, 3, 4, math.MaxInt}

// plainEdit applies the edit to a valid database without the program.
func plainEdit(db impl.Database, e impl.Edit) (impl.Database, bool) {
	i, found := position(db, e.Fact)
	switch {
	case e.Kind == 1 && !found && len(db.Facts) < 14 && isPlainFact(db.Relations, e.Fact):
		return impl.Database{Relations: db.Relations, Facts: slices.Insert(slices.Clone(db.Facts), i, e.Fact)}, true
	case e.Kind == 2 && found:
		return without(db, i), true
	case e.Kind == 3 && found:
		return plainResolution(db, i), true
	}
	return db, false
}

// eachEdit visits valid databases with edits of the facts of the universe and of their own; few of them have another kind.
func eachEdit(visit func(db impl.Database, e impl.Edit)) {
	for _, db := range curatedDatabases() {
		db = roomy(db)
		for i, f := range append(universe(db.Relations), db.Facts...) {
			for _, kind := range editKinds {
				if i%20 == 0 || kind >= 1 && kind <= 3 {
					visit(db, edit(kind, roomy(f)))
				}
			}
		}
	}
}

func TestEditKinds(t *testing.T) {
	kinds := []int{impl.EditInsert, impl.EditDelete, impl.EditResolve}
	if !slices.Equal(kinds, []int{1, 2, 3}) {
		t.Error(kinds)
	}
}

func TestApplyEdit(t *testing.T) {
	counts := map[int]int{}
	eachEdit(func(db impl.Database, e impl.Edit) {
		want, wantOK := plainEdit(db, e)
		check := watch(t, db, e)
		got, ok := impl.ApplyEdit(db, e)
		again, _ := impl.ApplyEdit(db, e)
		check(got, again)
		if ok != wantOK || !sameDatabase(got, want) || !sameDatabase(again, want) {
			t.Fatalf("ApplyEdit(%s, %v) = %v, %v", databaseText(db), e, got, ok)
		}
		if ok {
			counts[e.Kind]++
		}
	})
	if counts[1] < 500 || counts[2] < 500 || counts[3] < 500 || len(counts) != 3 {
		t.Error(counts)
	}
}

// plainInverse follows the document without the program.
func plainInverse(db impl.Database, e impl.Edit) ([]impl.Edit, bool) {
	changed, ok := plainEdit(db, e)
	if !ok {
		return nil, false
	}
	var edits []impl.Edit
	for _, f := range changed.Facts {
		if _, found := position(db, f); !found {
			edits = append(edits, edit(2, f))
		}
	}
	for _, f := range db.Facts {
		if _, found := position(changed, f); !found {
			edits = append(edits, edit(1, f))
		}
	}
	return edits, true
}

func TestInverseEditsRestoreTheDatabase(t *testing.T) {
	lengths := map[int]int{}
	eachEdit(func(db impl.Database, e impl.Edit) {
		want, wantOK := plainInverse(db, e)
		check := watch(t, db, e)
		inverse, ok := impl.InverseEdits(db, e)
		again, _ := impl.InverseEdits(db, e)
		check(inverse, again)
		if ok != wantOK || !slices.EqualFunc(inverse, want, sameEdit) || !slices.EqualFunc(again, want, sameEdit) {
			t.Fatalf("InverseEdits(%s, %v) = %v, %v, want %v, %v", databaseText(db), e, inverse, ok, want, wantOK)
		}
		changed, isApplied := impl.ApplyEdit(db, e)
		if ok != isApplied {
			t.Fatalf("%s: %v is applied: %v, undone: %v", databaseText(db), e, isApplied, ok)
		}
		if !ok {
			return
		}
		restored, count := impl.ApplyEdits(changed, inverse)
		if count != len(inverse) || !sameDatabase(restored, db) || !impl.EqualDatabases(restored, db) {
			t.Fatalf("%s: %v is undone to %v", databaseText(db), e, restored)
		}
		lengths[min(len(inverse), 3)]++
	})
	for length := range 4 {
		if lengths[length] < 20 {
			t.Error(lengths)
		}
	}
}

// randomEdits returns edits that often can be applied.
func randomEdits(random *rand.Rand, db impl.Database) []impl.Edit {
	all := append(universe(db.Relations), db.Facts...)
	var edits []impl.Edit
	for range random.Intn(9) {
		e := edit(1+random.Intn(3), all[random.Intn(len(all))])
		if len(db.Facts) > 0 && random.Intn(2) > 0 {
			e.Fact = db.Facts[random.Intn(len(db.Facts))]
		}
		if random.Intn(9) == 0 {
			e.Kind = editKinds[random.Intn(len(editKinds))]
		}
		edits = append(edits, e)
	}
	return edits
}

func TestApplyEditsInTwoParts(t *testing.T) {
	random := rand.New(rand.NewSource(30))
	counts := map[int]int{}
	for _, db := range curatedDatabases() {
		db = roomy(db)
		for range 4 {
			edits := roomy(randomEdits(random, db))
			want, wantCount := db, 0
			for _, e := range edits {
				changed, ok := plainEdit(want, e)
				if want = changed; ok {
					wantCount++
				}
			}
			check := watch(t, db, edits)
			got, count := impl.ApplyEdits(db, edits)
			again, _ := impl.ApplyEdits(db, edits)
			check(got, again)
			if count != wantCount || !sameDatabase(got, want) || !sameDatabase(again, want) {
				t.Fatalf("ApplyEdits(%s, %v) = %v, %d, want %s, %d", databaseText(db), edits, got, count, databaseText(want), wantCount)
			}
			for i := range len(edits) + 1 {
				first, firstCount := impl.ApplyEdits(db, edits[:i])
				second, secondCount := impl.ApplyEdits(first, edits[i:])
				if firstCount+secondCount != count || !sameDatabase(second, got) {
					t.Errorf("%s: %v in two parts: %v, %d and %d", databaseText(db), edits, second, firstCount, secondCount)
				}
			}
			counts[min(count, 4)]++
		}
	}
	for count := range 5 {
		if counts[count] < 50 {
			t.Error(counts)
		}
	}
}

func TestEditsCanBeUndoneInReverse(t *testing.T) {
	random := rand.New(rand.NewSource(31))
	for _, db := range curatedDatabases() {
		changed := db
		var undo [][]impl.Edit
		for _, e := range randomEdits(random, db) {
			if inverse, ok := impl.InverseEdits(changed, e); ok {
				undo = append(undo, inverse)
				changed, _ = impl.ApplyEdit(changed, e)
			}
		}
		for _, inverse := range slices.Backward(undo) {
			changed, _ = impl.ApplyEdits(changed, inverse)
		}
		if !sameDatabase(changed, db) {
			t.Errorf("%s is restored as %s", databaseText(db), databaseText(changed))
		}
	}
}

func TestEditThatChangesNothing(t *testing.T) {
	db := roomy(database("r1/2 s0/1:r0|0 r0|1 r2|5 s|3"))
	for _, f := range []impl.Fact{fact(0, 2, 5), fact(1, 3)} {
		changed, ok := impl.ApplyEdit(db, edit(3, f))
		inverse, isUndone := impl.InverseEdits(db, edit(3, f))
		if !ok || !sameDatabase(changed, db) || !isUndone || len(inverse) != 0 {
			t.Errorf("resolving by %v: %v, %v, undone by %v, %v", f, changed, ok, inverse, isUndone)
		}
		if same, count := impl.ApplyEdits(db, []impl.Edit{edit(3, f), edit(3, f)}); count != 2 || !sameDatabase(same, db) {
			t.Errorf("resolving by %v twice: %v, %d", f, same, count)
		}
	}
	for _, e := range []impl.Edit{edit(1, fact(0, 0, 0)), edit(2, fact(0, 9, 9)), edit(3, fact(0, 9, 9)), edit(0, fact(0, 0, 0)), edit(4, fact(0, 0, 0)), edit(1, fact(0, 0, 10)), {}} {
		changed, ok := impl.ApplyEdit(db, e)
		inverse, isUndone := impl.InverseEdits(db, e)
		if ok || !sameDatabase(changed, db) || isUndone || len(inverse) != 0 {
			t.Errorf("%v: %v, %v, undone by %v, %v", e, changed, ok, inverse, isUndone)
		}
	}
	if same, count := impl.ApplyEdits(db, nil); count != 0 || !sameDatabase(same, db) {
		t.Errorf("no edits: %v, %d", same, count)
	}
}

// editTexts returns all edits of a valid schema by their strings.
func editTexts(relations []impl.Relation) map[string]impl.Edit {
	known := map[string]impl.Edit{}
	for text, f := range factsOf(relations) {
		known["+"+text], known["-"+text], known["!"+text] = edit(1, f), edit(2, f), edit(3, f)
	}
	return known
}

func TestFormatAndParseEdit(t *testing.T) {
	for _, s := range append(factSchemas, "", "r1/2") {
		db := roomy(impl.Database{Relations: schema(s)})
		for text, e := range editTexts(db.Relations) {
			e = roomy(e)
			check := watch(t, db, e)
			got := impl.FormatEdit(db, e)
			parsed, ok := impl.ParseEdit(db, text)
			again, _ := impl.ParseEdit(db, text)
			check(parsed, again)
			if got != text || !ok || !sameEdit(parsed, e) || !sameEdit(again, e) {
				t.Fatalf("%s: %q, parsed %v, %v", text, got, parsed, ok)
			}
		}
	}
}

func TestParseEditNothingElse(t *testing.T) {
	accepted := 0
	for _, s := range []string{"", "r1/2", "r1/2 s0/1", "a2/3 r1/1", "r0/2"} {
		db := impl.Database{Relations: schema(s)}
		known := editTexts(db.Relations)
		texts := append(stringsOver("+-!r1|", 5), stringsOver("+-rs09|", 4)...)
		for _, text := range []string{"+r0|0", "-s|9", "!a12|3", "+r1|", "!r|12", "r0|0", "*r0|0", "+r0|0 ", " +r0|0", "++r0|0", "+r0|0\n", "+", "\xffr0|0"} {
			texts = append(texts, text)
			texts = append(texts, oneByteEdits(text)...)
		}
		for _, text := range texts {
			want, wantOK := known[text]
			got, ok := impl.ParseEdit(db, text)
			if ok != wantOK || !sameEdit(got, want) {
				t.Fatalf("%s: ParseEdit(%q) = %v, %v, want %v, %v", s, text, got, ok, want, wantOK)
			}
			if ok {
				accepted++
			}
		}
	}
	if accepted < 100 {
		t.Errorf("only %d are accepted", accepted)
	}
	db := database("r1/2:")
	for _, text := range []string{"+" + strings.Repeat("r", 1<<20), strings.Repeat("+", 1<<20), "+r1|2" + strings.Repeat("0", 1<<20)} {
		if got, ok := impl.ParseEdit(db, text); ok || !isZeroEdit(got) {
			t.Errorf("%d bytes: %v", len(text), got)
		}
	}
}

func TestFormatOtherEdits(t *testing.T) {
	db := database("r1/2 s1/2:r0|0")
	signs := map[int]string{1: "+", 2: "-", 3: "!"}
	for _, f := range oddFacts() {
		for _, kind := range editKinds {
			want := ""
			if sign := signs[kind]; sign != "" && isPlainFact(db.Relations, f) {
				want = sign + factText(db.Relations, f)
			}
			if got := impl.FormatEdit(db, edit(kind, f)); got != want {
				t.Errorf("FormatEdit(%d, %v) = %q, want %q", kind, f, got, want)
			}
		}
	}
}

func TestEditsOfInvalidDatabases(t *testing.T) {
	for _, db := range invalidDatabases() {
		db = roomy(db)
		for _, f := range append([]impl.Fact{fact(0, 1, 2), fact(0), fact(-1)}, cloned(db.Facts)...) {
			for _, kind := range editKinds {
				e := edit(kind, f)
				check := watch(t, db, e)
				changed, ok := impl.ApplyEdit(db, e)
				all, count := impl.ApplyEdits(db, []impl.Edit{e, e})
				inverse, isUndone := impl.InverseEdits(db, e)
				check(changed, all, inverse)
				if ok || !sameDatabase(changed, db) || count != 0 || !sameDatabase(all, db) || isUndone || len(inverse) != 0 {
					t.Fatalf("%v with %v: %v, %v, %d, %v, %v", db, e, changed, ok, count, inverse, isUndone)
				}
			}
		}
	}
	for _, relations := range invalidSchemas() {
		db := impl.Database{Relations: relations}
		for _, text := range []string{"+r1|2", "-r12", "!rr1|2", "+a1|2", "+r", "+"} {
			if got, ok := impl.ParseEdit(db, text); ok || !isZeroEdit(got) {
				t.Errorf("%v: ParseEdit(%q) = %v", relations, text, got)
			}
		}
		if got := impl.FormatEdit(db, edit(1, fact(0, 1, 2))); got != "" {
			t.Errorf("%v: %q", relations, got)
		}
	}
}

package tests

import (
	"slices"
	"testing"

	"loop.example/g01918/impl"
)

// plainIrrelevant returns the facts of no embedding, without the program.
func plainIrrelevant(q question) []int {
	witnesses := plainWitnesses(q)
	var irrelevant []int
	for i := range q.db.Facts {
		if !slices.ContainsFunc(witnesses, func(witness []int) bool { return slices.Contains(witness, i) }) {
			irrelevant = append(irrelevant, i)
		}
	}
	return irrelevant
}

// plainPurification returns the databases after each step, without the program.
func plainPurification(q question) []impl.Database {
	all := []impl.Database{q.db}
	for {
		irrelevant := plainIrrelevant(q)
		if len(irrelevant) == 0 {
			return all
		}
		var kept []int
		for i := range q.db.Facts {
			if keyText(q.db, i) != keyText(q.db, irrelevant[0]) {
				kept = append(kept, i)
			}
		}
		q.db = part(q.db, kept)
		all = append(all, q.db)
	}
}

func TestIrrelevantFacts(t *testing.T) {
	for _, q := range questions() {
		q = q.roomy()
		want := plainIrrelevant(q)
		check := watch(t, q.db, q.query)
		got, again := impl.IrrelevantFacts(q.db, q.query), impl.IrrelevantFacts(q.db, q.query)
		isPurified := impl.IsPurified(q.db, q.query)
		check(got, again)
		if !slices.Equal(got, want) || !slices.Equal(again, want) || isPurified != (len(want) == 0) {
			t.Errorf("%v: %v, purified %v, want %v", q, got, isPurified, want)
		}
	}
}

func TestPurify(t *testing.T) {
	lengths := map[int]int{}
	for _, q := range questions() {
		q = q.roomy()
		steps := plainPurification(q)
		for i, db := range steps {
			db := roomy(db)
			check := watch(t, db, q.query)
			next, ok := impl.PurifyOnce(db, q.query)
			again, _ := impl.PurifyOnce(db, q.query)
			purified, purifiedAgain := impl.Purify(db, q.query), impl.Purify(db, q.query)
			check(next, again, purified, purifiedAgain)
			isLast := i == len(steps)-1
			want := steps[min(i+1, len(steps)-1)]
			if ok == isLast || !sameDatabase(next, want) || !sameDatabase(again, want) {
				t.Errorf("%v: PurifyOnce of %s is %s, %v", q, databaseText(db), databaseText(next), ok)
			}
			if last := steps[len(steps)-1]; !sameDatabase(purified, last) || !sameDatabase(purifiedAgain, last) {
				t.Errorf("%v: Purify of %s is %s", q, databaseText(db), databaseText(purified))
			}
		}
		lengths[min(len(steps), 4)]++
	}
	for length := 1; length <= 4; length++ {
		if lengths[length] < 20 {
			t.Errorf("%d steps occur %d times", length-1, lengths[length])
		}
	}
}

func TestPurificationPreservesCertainty(t *testing.T) {
	certain := 0
	for _, q := range questions() {
		want := isPlainCertain(q)
		for db, isChanged := q.db, true; isChanged; {
			if len(db.Facts) > len(q.db.Facts) {
				t.Fatalf("%v: purification does not end", q)
			}
			db, isChanged = impl.PurifyOnce(db, q.query)
			if isPlainCertain(question{db, q.query}) != want || impl.IsCertain(db, q.query) != want {
				t.Errorf("%v: certain %v, but not after purification to %s", q, want, databaseText(db))
			}
		}
		purified := impl.Purify(q.db, q.query)
		if impl.IsCertain(purified, q.query) != want {
			t.Errorf("%v: certain %v, but not %s", q, want, databaseText(purified))
		}
		if want {
			certain++
		}
	}
	if certain < 50 {
		t.Errorf("only %d certain questions", certain)
	}
}

func TestEveryRemainingFactIsRelevant(t *testing.T) {
	for _, q := range questions() {
		purified := question{impl.Purify(q.db, q.query), q.query}
		if got := plainIrrelevant(purified); len(got) != 0 || !impl.IsPurified(purified.db, q.query) {
			t.Errorf("%v: %v are irrelevant in %v", q, got, purified)
		}
		if len(impl.RelevantFacts(purified.db, q.query)) != len(purified.db.Facts) {
			t.Errorf("%v: a fact of %v is irrelevant", q, purified)
		}
		for i := range purified.db.Facts {
			for k := range q.db.Facts {
				if keyText(purified.db, i) == keyText(q.db, k) && impl.FactIndex(purified.db, q.db.Facts[k]) < 0 {
					t.Errorf("%v: a part of a block is left in %v", q, purified)
				}
			}
		}
	}
}

func TestDatabaseThatBecomesEmpty(t *testing.T) {
	for _, q := range []question{
		ask("r1/2 s1/2:r0|0 r0|1 s0|5", "?rx|y sy|z"), ask("r1/2:r0|0 r0|1 r1|2", "?rx|7"), ask("r1/2:r0|0 r0|1", "?r0|1"),
		ask("r1/2 s1/2:r0|1 r1|2 s1|3 s1|9 s2|0", "?rx|y sy|x"), ask("r1/2 s1/2:s0|0", "x?rx|y"), ask("r0/1 t1/1:r|1 r|2 t0", "?r1"),
		ask("r1/2 s1/2:r0|0 r0|7 s0|0", "?rx|y sy|x"),
	} {
		purified := impl.Purify(q.db, q.query)
		if len(purified.Facts) != 0 || !slices.Equal(purified.Relations, q.db.Relations) || !impl.IsPurified(purified, q.query) {
			t.Errorf("%v: %v", q, purified)
		}
		if isPlainCertain(q) || impl.IsCertain(q.db, q.query) || impl.IsCertain(purified, q.query) {
			t.Errorf("%v is certain", q)
		}
		if same, ok := impl.PurifyOnce(purified, q.query); ok || !sameDatabase(same, purified) {
			t.Errorf("%v: an empty database is purified to %v", q, same)
		}
	}
	empty := ask("r1/2 s1/2:", "?rx|y")
	if !impl.IsPurified(empty.db, empty.query) || len(impl.IrrelevantFacts(empty.db, empty.query)) != 0 || !sameDatabase(impl.Purify(empty.db, empty.query), empty.db) {
		t.Error("an empty database is not purified")
	}
}

func TestFactsOfOtherRelationsAreIrrelevant(t *testing.T) {
	q := ask("q1/2 r1/2 s1/2:q0|0 q0|1 r0|0 r0|1 s0|5", "?rx|y")
	if got := impl.IrrelevantFacts(q.db, q.query); !slices.Equal(got, []int{0, 1, 4}) {
		t.Error(got)
	}
	if got, ok := impl.PurifyOnce(q.db, q.query); !ok || databaseText(got) != "q1/2 r1/2 s1/2:r0|0 r0|1 s0|5" {
		t.Error(databaseText(got), ok)
	}
	if got := impl.Purify(q.db, q.query); databaseText(got) != "q1/2 r1/2 s1/2:r0|0 r0|1" {
		t.Error(databaseText(got))
	}
}

func TestPurificationOfUnsuitableQuestions(t *testing.T) {
	for _, q := range unsuitableQuestions() {
		q = q.roomy()
		check := watch(t, q.db, q.query)
		irrelevant, isPurified := impl.IrrelevantFacts(q.db, q.query), impl.IsPurified(q.db, q.query)
		once, ok := impl.PurifyOnce(q.db, q.query)
		purified := impl.Purify(q.db, q.query)
		check(irrelevant, once, purified)
		if len(irrelevant) != 0 || isPurified || ok || !sameDatabase(once, q.db) || !sameDatabase(purified, q.db) {
			t.Errorf("%v, %v: %v, %v, %v, %v, %v", q.db, q.query, irrelevant, isPurified, once, ok, purified)
		}
	}
}

package tests

import (
	"slices"
	"testing"

	"loop.example/g01918/impl"
)

// universe returns all facts over the values 0, 1 and 9, and some that are not valid.
func universe(relations []impl.Relation) []impl.Fact {
	var facts []impl.Fact
	for i, r := range relations {
		for code := range 27 {
			values := []int{[]int{0, 1, 9}[code/9], []int{0, 1, 9}[code/3%3], []int{0, 1, 9}[code%3]}
			if r.Arity < 3 && values[2] != 0 || r.Arity < 2 && values[1] != 0 {
				continue
			}
			facts = append(facts, fact(i, values[:r.Arity]...))
		}
	}
	return append(facts, fact(-1, 0, 0), fact(len(relations), 0, 0), fact(0), fact(0, 0, 10), fact(0, -1, 0), fact(0, 0, 0, 0, 0))
}

// position returns where the fact is or has to be inserted, and whether it is there.
func position(db impl.Database, f impl.Fact) (int, bool) {
	for i, other := range db.Facts {
		if order := wantOrder(other, f); order >= 0 {
			return i, order == 0
		}
	}
	return len(db.Facts), false
}

func TestIsValidDatabase(t *testing.T) {
	if impl.MaxFacts != 14 {
		t.Error(impl.MaxFacts)
	}
	for _, db := range validDatabases() {
		db = roomy(db)
		check := watch(t, db)
		if !impl.IsValidDatabase(db) {
			t.Errorf("%s is refused", databaseText(db))
		}
		check()
	}
	for _, db := range invalidDatabases() {
		if impl.IsValidDatabase(db) {
			t.Errorf("%v is accepted", db)
		}
	}
	if !impl.IsValidDatabase(impl.Database{}) {
		t.Error("the zero database is refused")
	}
}

func TestContainsFactAndFactIndex(t *testing.T) {
	for _, db := range validDatabases() {
		db = roomy(db)
		for _, f := range universe(db.Relations) {
			f = roomy(f)
			check := watch(t, db, f)
			i, found := position(db, f)
			if got := impl.ContainsFact(db, f); got != found {
				t.Fatalf("ContainsFact(%s, %v) = %v", databaseText(db), f, got)
			}
			if !found {
				i = -1
			}
			if got := impl.FactIndex(db, f); got != i {
				t.Fatalf("FactIndex(%s, %v) = %d, want %d", databaseText(db), f, got, i)
			}
			check()
		}
	}
}

func TestFactIndexOfAnyDatabase(t *testing.T) {
	db := impl.Database{Facts: []impl.Fact{fact(5, 99), fact(0), fact(-1, 1, 2), fact(0), fact(5, 99), fact(5, 99, 0), fact(5)}}
	for want, f := range map[int]impl.Fact{0: fact(5, 99), 1: fact(0), 2: fact(-1, 1, 2), 5: fact(5, 99, 0), 6: fact(5), -1: fact(5, 98)} {
		if got := impl.FactIndex(db, f); got != want {
			t.Errorf("FactIndex(%v) = %d, want %d", f, got, want)
		}
	}
	if impl.FactIndex(impl.Database{}, fact(0)) != -1 {
		t.Error("an index where there are no facts")
	}
	for _, db := range invalidDatabases() {
		for i, f := range db.Facts {
			want := slices.IndexFunc(db.Facts, func(other impl.Fact) bool { return sameFact(other, f) })
			if got := impl.FactIndex(db, f); got != want {
				t.Errorf("FactIndex(%v, fact %d) = %d, want %d", db, i, got, want)
			}
			if impl.ContainsFact(db, f) {
				t.Errorf("the invalid database %v contains %v", db, f)
			}
		}
	}
}

func TestInsertFact(t *testing.T) {
	for _, db := range validDatabases() {
		db = roomy(db)
		for _, f := range universe(db.Relations) {
			f = roomy(f)
			i, found := position(db, f)
			want, wantOK := cloned(db), !found && isPlainFact(db.Relations, f) && len(db.Facts) < 14
			if wantOK {
				want.Facts = slices.Insert(want.Facts, i, f)
			}
			check := watch(t, db, f)
			got, ok := impl.InsertFact(db, f)
			again, _ := impl.InsertFact(db, f)
			check(got, again)
			if ok != wantOK || !sameDatabase(got, want) || !sameDatabase(again, want) {
				t.Fatalf("InsertFact(%s, %v) = %v, %v", databaseText(db), f, got, ok)
			}
		}
	}
}

func TestDeleteFact(t *testing.T) {
	for _, db := range validDatabases() {
		db = roomy(db)
		for _, f := range universe(db.Relations) {
			f = roomy(f)
			i, found := position(db, f)
			want := cloned(db)
			if found {
				want.Facts = slices.Delete(want.Facts, i, i+1)
			}
			check := watch(t, db, f)
			got, ok := impl.DeleteFact(db, f)
			again, _ := impl.DeleteFact(db, f)
			check(got, again)
			if ok != found || !sameDatabase(got, want) || !sameDatabase(again, want) {
				t.Fatalf("DeleteFact(%s, %v) = %v, %v", databaseText(db), f, got, ok)
			}
		}
	}
}

func TestInsertedFactIsContainedAndDeletingRestores(t *testing.T) {
	inserted := 0
	for _, db := range validDatabases() {
		for _, f := range universe(db.Relations) {
			larger, ok := impl.InsertFact(db, f)
			if !ok {
				continue
			}
			inserted++
			if !impl.IsValidDatabase(larger) || !impl.ContainsFact(larger, f) || len(larger.Facts) != len(db.Facts)+1 || impl.EqualDatabases(larger, db) {
				t.Fatalf("%v inserted into %s gives %v", f, databaseText(db), larger)
			}
			restored, ok := impl.DeleteFact(larger, f)
			if !ok || !impl.EqualDatabases(restored, db) || !sameDatabase(restored, db) || impl.ContainsFact(restored, f) {
				t.Fatalf("deleting %v does not restore %s: %v", f, databaseText(db), restored)
			}
		}
	}
	if inserted == 0 {
		t.Error("nothing was inserted")
	}
}

func TestInsertContainedFact(t *testing.T) {
	db := roomy(database("r1/2 s1/2:r0|0 r3|1 s0|0"))
	for _, f := range db.Facts {
		check := watch(t, db, f)
		got, ok := impl.InsertFact(db, f)
		check(got)
		if ok || !sameDatabase(got, db) {
			t.Errorf("InsertFact of the contained %v = %v, %v", f, got, ok)
		}
	}
}

func TestInsertBeyondMaxFacts(t *testing.T) {
	db := impl.Database{Relations: schema("r1/2")}
	for i := range 14 {
		larger, ok := impl.InsertFact(db, fact(0, 9-i%10, i/10))
		if !ok || len(larger.Facts) != i+1 {
			t.Fatalf("fact number %d: %v, %v", i, larger, ok)
		}
		db = larger
	}
	got, ok := impl.InsertFact(db, fact(0, 5, 5))
	if ok || !sameDatabase(got, db) {
		t.Errorf("a fact beyond the limit: %v, %v", got, ok)
	}
	if smaller, ok := impl.DeleteFact(db, fact(0, 9, 0)); !ok || len(smaller.Facts) != 13 {
		t.Error(smaller, ok)
	} else if _, ok := impl.InsertFact(smaller, fact(0, 5, 5)); !ok {
		t.Error("the last place is not used")
	}
}

func TestChangesOfInvalidDatabases(t *testing.T) {
	for _, db := range invalidDatabases() {
		db = roomy(db)
		for _, f := range append([]impl.Fact{fact(0, 1, 2), fact(1, 5, 5), fact(0), fact(-1)}, cloned(db.Facts)...) {
			check := watch(t, db, f)
			inserted, insertOK := impl.InsertFact(db, f)
			deleted, deleteOK := impl.DeleteFact(db, f)
			check(inserted, deleted)
			if insertOK || !sameDatabase(inserted, db) {
				t.Fatalf("InsertFact(%v, %v) = %v, %v", db, f, inserted, insertOK)
			}
			if deleteOK || !sameDatabase(deleted, db) {
				t.Fatalf("DeleteFact(%v, %v) = %v, %v", db, f, deleted, deleteOK)
			}
		}
	}
}

func TestEqualDatabases(t *testing.T) {
	databases := append(validDatabases()[:300], invalidDatabases()...)
	for _, a := range databases {
		for _, b := range databases {
			if got, want := impl.EqualDatabases(a, b), sameDatabase(a, b); got != want {
				t.Fatalf("EqualDatabases(%v, %v) = %v", a, b, got)
			}
		}
	}
	db := roomy(database("r1/2 s1/2:r1|2 s0|0"))
	other := cloned(db)
	check := watch(t, db, other)
	if !impl.EqualDatabases(db, other) {
		t.Error("a copy is not equal")
	}
	check()
	for _, change := range []func(*impl.Database){
		func(db *impl.Database) { db.Relations[1].Name = "t" },
		func(db *impl.Database) { db.Relations[0].Arity = 3 },
		func(db *impl.Database) { db.Relations[0].KeyLength = 2 },
		func(db *impl.Database) { db.Relations = db.Relations[:1] },
		func(db *impl.Database) { db.Facts[0].Relation = 1 },
		func(db *impl.Database) { db.Facts[1].Values[1] = 1 },
		func(db *impl.Database) { db.Facts[1].Values = db.Facts[1].Values[:1] },
		func(db *impl.Database) { db.Facts = db.Facts[:1] },
	} {
		changed := cloned(db)
		change(&changed)
		if impl.EqualDatabases(db, changed) || impl.EqualDatabases(changed, db) {
			t.Errorf("%v equals %v", changed, db)
		}
	}
	empty := impl.Database{Relations: []impl.Relation{}, Facts: []impl.Fact{}}
	if !impl.EqualDatabases(impl.Database{}, empty) || !impl.EqualDatabases(empty, impl.Database{}) {
		t.Error("nil and empty slices differ")
	}
}

func TestSelectFacts(t *testing.T) {
	eachIndexList(func(db impl.Database, indices []int, isValid bool) {
		var want impl.Database
		if isValid {
			want = part(db, indices)
		}
		check := watch(t, db, indices)
		got, ok := impl.SelectFacts(db, indices)
		again, _ := impl.SelectFacts(db, indices)
		check(got, again)
		if ok != isValid || !sameDatabase(got, want) || !sameDatabase(again, want) {
			t.Fatalf("SelectFacts(%s, %v) = %v, %v", databaseText(db), indices, got, ok)
		}
	})
}

func TestSelectFactsInvalid(t *testing.T) {
	for _, db := range invalidDatabases() {
		for _, indices := range [][]int{nil, {}, {0}, {0, 1}, {-1}, {100}} {
			if got, ok := impl.SelectFacts(db, indices); ok || !isZeroDatabase(got) {
				t.Fatalf("SelectFacts(%v, %v) = %v, %v", db, indices, got, ok)
			}
		}
	}
}

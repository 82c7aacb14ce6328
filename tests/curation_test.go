package tests

import (
	"math"
	"math/rand"
	"slices"
	"testing"

	"loop.example/g01918/impl"
)

// plainResolution keeps only the fact with this index of its block, without the program.
func plainResolution(db impl.Database, index int) impl.Database {
	var kept []int
	for i := range db.Facts {
		if i == index || keyText(db, i) != keyText(db, index) {
			kept = append(kept, i)
		}
	}
	return part(db, kept)
}

func without(db impl.Database, index int) impl.Database {
	var kept []int
	for i := range db.Facts {
		if i != index {
			kept = append(kept, i)
		}
	}
	return part(db, kept)
}

// isAlone tells whether the fact is the only one of its block, without the program.
func isAlone(db impl.Database, index int) bool {
	return !slices.ContainsFunc(blocksByKey(db), func(block []int) bool { return len(block) > 1 && slices.Contains(block, index) })
}

// curatedDatabases leaves out some of the small databases.
func curatedDatabases() []impl.Database {
	var databases []impl.Database
	for i, db := range validDatabases() {
		if i%3 == 0 || i >= 256 {
			databases = append(databases, db)
		}
	}
	return databases
}

func TestResolveConflictAndRetractFact(t *testing.T) {
	resolved, retracted := 0, 0
	for _, db := range curatedDatabases() {
		db = roomy(db)
		for _, f := range universe(db.Relations) {
			f = roomy(f)
			i, found := position(db, f)
			wantResolved, wantRetracted, wantOK := db, db, false
			if found {
				wantResolved = plainResolution(db, i)
			}
			if found && !isAlone(db, i) {
				wantRetracted, wantOK = without(db, i), true
			}
			check := watch(t, db, f)
			got, ok := impl.ResolveConflict(db, f)
			again, _ := impl.ResolveConflict(db, f)
			smaller, isRetracted := impl.RetractFact(db, f)
			smallerAgain, _ := impl.RetractFact(db, f)
			check(got, again, smaller, smallerAgain)
			if ok != found || !sameDatabase(got, wantResolved) || !sameDatabase(again, wantResolved) {
				t.Fatalf("ResolveConflict(%s, %v) = %v, %v", databaseText(db), f, got, ok)
			}
			if isRetracted != wantOK || !sameDatabase(smaller, wantRetracted) || !sameDatabase(smallerAgain, wantRetracted) {
				t.Fatalf("RetractFact(%s, %v) = %v, %v", databaseText(db), f, smaller, isRetracted)
			}
			if ok && len(got.Facts) < len(db.Facts) {
				resolved++
			}
			if isRetracted {
				retracted++
			}
		}
	}
	if resolved < 100 || retracted < 100 {
		t.Errorf("only %d facts are resolved and %d retracted", resolved, retracted)
	}
}

func TestResolvingRemovesTheOtherFactsOfTheBlock(t *testing.T) {
	for _, db := range curatedDatabases() {
		for _, f := range db.Facts {
			got, ok := impl.ResolveConflict(db, f)
			i := impl.FactIndex(got, f)
			if !ok || i < 0 || !slices.Equal(impl.BlockOf(got, i), []int{i}) || len(impl.Blocks(got)) != len(impl.Blocks(db)) || !impl.IsValidDatabase(got) {
				t.Errorf("%s: resolved by %v: %s", databaseText(db), f, databaseText(got))
			}
		}
	}
}

func TestRetractingKeepsTheNumberOfBlocks(t *testing.T) {
	for _, db := range curatedDatabases() {
		for i, f := range db.Facts {
			got, ok := impl.RetractFact(db, f)
			if ok == isAlone(db, i) || len(impl.Blocks(got)) != len(impl.Blocks(db)) || ok == (impl.FactIndex(got, f) >= 0) {
				t.Errorf("%s: without %v: %s", databaseText(db), f, databaseText(got))
			}
		}
	}
}

func TestResolvingPreservesCertainty(t *testing.T) {
	certain, becomesCertain := 0, 0
	for _, q := range questions() {
		wasCertain := isPlainCertain(q)
		for _, f := range q.db.Facts {
			resolved, _ := impl.ResolveConflict(q.db, f)
			isCertain := impl.IsCertain(resolved, q.query)
			if wasCertain && !isCertain || isCertain != isPlainCertain(question{resolved, q.query}) {
				t.Errorf("%v: certain %v, but resolved by %v: %v", q, wasCertain, f, isCertain)
			}
			if wasCertain {
				certain++
			} else if isCertain {
				becomesCertain++
			}
		}
	}
	if certain < 100 || becomesCertain < 100 {
		t.Errorf("only %d stay certain and %d become certain", certain, becomesCertain)
	}
}

func TestFactAloneInItsBlock(t *testing.T) {
	for _, s := range []string{"r1/2:r0|0", "r1/2 s0/1:r0|0 r0|1 r1|1 s|4", "r2/2:r00 r01 r11", "r0/3:r|123", "r1/1 s1/1:r0 s0"} {
		db := roomy(database(s))
		for i, f := range db.Facts {
			if !isAlone(db, i) {
				continue
			}
			check := watch(t, db, f)
			resolved, isResolved := impl.ResolveConflict(db, f)
			retracted, isRetracted := impl.RetractFact(db, f)
			all, count := impl.ResolveAll(db, []impl.Fact{f, f})
			check(resolved, retracted, all)
			if !isResolved || !sameDatabase(resolved, db) || isRetracted || !sameDatabase(retracted, db) || count != 2 || !sameDatabase(all, db) {
				t.Errorf("%s: %v: %v, %v, %v, %v, %v", s, f, resolved, isResolved, retracted, isRetracted, count)
			}
		}
	}
}

// plainMerge replaces the value without the program.
func plainMerge(db impl.Database, a, b int) impl.Database {
	merged := impl.Database{Relations: db.Relations}
	for _, f := range db.Facts {
		changed := fact(f.Relation)
		for _, value := range f.Values {
			if value == a {
				value = b
			}
			changed.Values = append(changed.Values, value)
		}
		if !slices.ContainsFunc(merged.Facts, func(other impl.Fact) bool { return sameFact(other, changed) }) {
			merged.Facts = append(merged.Facts, changed)
		}
	}
	slices.SortFunc(merged.Facts, orderOfFacts)
	return merged
}

func TestMergeValues(t *testing.T) {
	fewer, reordered := 0, 0
	for _, db := range curatedDatabases() {
		db = roomy(db)
		for _, a := range []int{0, 1, 2, 5, 9} {
			for b := range 10 {
				want := plainMerge(db, a, b)
				check := watch(t, db)
				got, ok := impl.MergeValues(db, a, b)
				again, _ := impl.MergeValues(db, a, b)
				check(got, again)
				if !ok || !sameDatabase(got, want) || !sameDatabase(again, want) || !impl.IsValidDatabase(got) {
					t.Fatalf("MergeValues(%s, %d, %d) = %v, %v", databaseText(db), a, b, got, ok)
				}
				occurs := func(f impl.Fact) bool { return slices.Contains(f.Values, a) }
				if a != b && slices.ContainsFunc(got.Facts, occurs) || a == b && !sameDatabase(got, db) {
					t.Errorf("MergeValues(%s, %d, %d) = %s", databaseText(db), a, b, databaseText(got))
				}
				if len(got.Facts) < len(db.Facts) {
					fewer++
				} else if len(got.Facts) > 1 && sameFact(got.Facts[0], db.Facts[1]) {
					reordered++
				}
			}
		}
	}
	if fewer < 500 || reordered < 20 {
		t.Errorf("only %d databases become smaller and %d change their order", fewer, reordered)
	}
}

func TestMergeValuesExamples(t *testing.T) {
	const db = "r1/2 s1/2:r0|0 r0|1 r0|2 r1|0 s0|0 s0|1"
	for _, c := range []struct {
		a, b int
		want string
	}{
		{2, 1, "r1/2 s1/2:r0|0 r0|1 r1|0 s0|0 s0|1"}, {0, 2, "r1/2 s1/2:r1|2 r2|1 r2|2 s2|1 s2|2"}, {0, 1, "r1/2 s1/2:r1|1 r1|2 s1|1"},
		{5, 9, db}, {1, 1, db}, {0, 9, "r1/2 s1/2:r1|9 r9|1 r9|2 r9|9 s9|1 s9|9"},
	} {
		if got, ok := impl.MergeValues(database(db), c.a, c.b); !ok || databaseText(got) != c.want {
			t.Errorf("%d and %d are merged: %s, %v", c.a, c.b, databaseText(got), ok)
		}
	}
}

func TestMergeOtherValues(t *testing.T) {
	db := roomy(database("r1/2 s1/2:r0|0 r0|1 r9|2 s0|0"))
	for _, a := range hostileInts {
		for _, b := range hostileInts {
			want := a >= 0 && a <= 9 && b >= 0 && b <= 9
			check := watch(t, db)
			got, ok := impl.MergeValues(db, a, b)
			check(got)
			if ok != want || !ok && !sameDatabase(got, db) {
				t.Errorf("%d and %d are merged: %v, %v", a, b, got, ok)
			}
		}
	}
}

func TestLargestConflicts(t *testing.T) {
	sizes := map[int]int{}
	for _, db := range validDatabases() {
		db = roomy(db)
		var want []int
		for _, block := range blocksByKey(db) {
			if len(block) >= 2 && len(block) > len(want) {
				want = block
			}
		}
		check := watch(t, db)
		got, again := impl.LargestConflicts(db), impl.LargestConflicts(db)
		check(got, again)
		if !slices.Equal(got, want) || !slices.Equal(again, want) {
			t.Errorf("LargestConflicts(%s) = %v, want %v", databaseText(db), got, want)
		}
		sizes[min(len(got), 3)]++
	}
	for _, size := range []int{0, 2, 3} {
		if sizes[size] < 20 {
			t.Error(sizes)
		}
	}
	for s, want := range map[string][]int{
		":": nil, "r1/2:": nil, "r1/2:r0|0": nil, "r1/2:r0|0 r1|0": nil, "r1/2:r0|0 r0|1 r1|0 r1|1": {0, 1}, "r1/2:r0|0 r1|0 r1|1 r2|0 r2|1 r2|2": {3, 4, 5},
		"r1/2 s1/2:r0|0 r0|1 r0|2 s0|0 s0|1 s0|2": {0, 1, 2}, "r1/2 s1/2:r0|0 r0|1 s0|0 s0|1 s0|2 s1|0": {2, 3, 4},
	} {
		if got := impl.LargestConflicts(database(s)); !slices.Equal(got, want) {
			t.Errorf("LargestConflicts(%s) = %v, want %v", s, got, want)
		}
	}
}

func TestResolveAll(t *testing.T) {
	random := rand.New(rand.NewSource(29))
	counts := map[int]int{}
	for _, db := range curatedDatabases() {
		db = roomy(db)
		all := append(universe(db.Relations), db.Facts...)
		for range 4 {
			var facts []impl.Fact
			want, wantCount := db, 0
			for range random.Intn(7) {
				f := all[random.Intn(len(all))]
				if len(db.Facts) > 0 && random.Intn(3) > 0 {
					f = db.Facts[random.Intn(len(db.Facts))]
				}
				facts = append(facts, f)
				if i, found := position(want, f); found {
					want, wantCount = plainResolution(want, i), wantCount+1
				}
			}
			facts = roomy(facts)
			check := watch(t, db, facts)
			got, count := impl.ResolveAll(db, facts)
			again, _ := impl.ResolveAll(db, facts)
			check(got, again)
			if count != wantCount || !sameDatabase(got, want) || !sameDatabase(again, want) {
				t.Fatalf("ResolveAll(%s, %v) = %v, %d, want %s, %d", databaseText(db), facts, got, count, databaseText(want), wantCount)
			}
			counts[count]++
		}
	}
	for count := range 4 {
		if counts[count] < 20 {
			t.Error(counts)
		}
	}
}

func TestCurationOfInvalidDatabases(t *testing.T) {
	for _, db := range invalidDatabases() {
		db = roomy(db)
		for _, f := range append([]impl.Fact{fact(0, 1, 2), fact(0), fact(-1), fact(math.MaxInt, 0)}, cloned(db.Facts)...) {
			check := watch(t, db, f)
			resolved, isResolved := impl.ResolveConflict(db, f)
			retracted, isRetracted := impl.RetractFact(db, f)
			merged, isMerged := impl.MergeValues(db, 1, 2)
			all, count := impl.ResolveAll(db, []impl.Fact{f})
			same, none := impl.ResolveAll(db, nil)
			check(resolved, retracted, merged, all, same)
			if isResolved || isRetracted || isMerged || count != 0 || none != 0 {
				t.Fatalf("%v with %v: %v, %v, %v, %d", db, f, isResolved, isRetracted, isMerged, count)
			}
			for _, got := range []impl.Database{resolved, retracted, merged, all, same} {
				if !sameDatabase(got, db) {
					t.Fatalf("%v with %v is changed to %v", db, f, got)
				}
			}
		}
		if got := impl.LargestConflicts(db); len(got) != 0 {
			t.Errorf("LargestConflicts(%v) = %v", db, got)
		}
	}
}

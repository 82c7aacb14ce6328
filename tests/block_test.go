package tests

import (
	"slices"
	"testing"

	"loop.example/g01918/impl"
)

func TestBlocks(t *testing.T) {
	for _, db := range validDatabases() {
		db = roomy(db)
		want := blocksByKey(db)
		check := watch(t, db)
		got, again := impl.Blocks(db), impl.Blocks(db)
		check(got, again)
		if !equalLists(got, want) || !equalLists(again, want) {
			t.Errorf("Blocks(%s) = %v, want %v", databaseText(db), got, want)
		}
	}
}

func TestEveryFactIsInExactlyOneBlock(t *testing.T) {
	for _, db := range validDatabases() {
		times := make([]int, len(db.Facts))
		for _, block := range impl.Blocks(db) {
			for _, i := range block {
				times[i]++
				if !impl.HaveSameKey(db.Relations, db.Facts[block[0]], db.Facts[i]) {
					t.Errorf("%s: block %v has two keys", databaseText(db), block)
				}
			}
		}
		for i, count := range times {
			if count != 1 {
				t.Errorf("%s: fact %d is in %d blocks", databaseText(db), i, count)
			}
		}
	}
}

func TestBlockOf(t *testing.T) {
	for _, db := range validDatabases() {
		db = roomy(db)
		for _, i := range hostileInts {
			var want []int
			for j := range db.Facts {
				if i >= 0 && i < len(db.Facts) && keyText(db, i) == keyText(db, j) {
					want = append(want, j)
				}
			}
			check := watch(t, db)
			got, again := impl.BlockOf(db, i), impl.BlockOf(db, i)
			check(got, again)
			if !slices.Equal(got, want) || !slices.Equal(again, want) {
				t.Errorf("BlockOf(%s, %d) = %v, want %v", databaseText(db), i, got, want)
			}
		}
	}
}

func TestBlockSizesAndConflicts(t *testing.T) {
	for _, db := range validDatabases() {
		db = roomy(db)
		var sizes, conflicting []int
		for _, block := range blocksByKey(db) {
			sizes = append(sizes, len(block))
		}
		for i := range db.Facts {
			for j := range db.Facts {
				if i != j && keyText(db, i) == keyText(db, j) {
					conflicting = append(conflicting, i)
					break
				}
			}
		}
		check := watch(t, db)
		gotSizes, gotConflicting, consistent := impl.BlockSizes(db), impl.ConflictingFacts(db), impl.IsConsistent(db)
		check(gotSizes, gotConflicting)
		if !slices.Equal(gotSizes, sizes) {
			t.Errorf("BlockSizes(%s) = %v, want %v", databaseText(db), gotSizes, sizes)
		}
		if !slices.Equal(gotConflicting, conflicting) {
			t.Errorf("ConflictingFacts(%s) = %v, want %v", databaseText(db), gotConflicting, conflicting)
		}
		if consistent != (len(conflicting) == 0) {
			t.Errorf("IsConsistent(%s) = %v", databaseText(db), consistent)
		}
	}
}

// takesOnePerBlock tells whether a valid list of indices has no two facts with the same key.
func takesOnePerBlock(db impl.Database, indices []int) bool {
	keys := map[string]bool{}
	for _, i := range indices {
		keys[keyText(db, i)] = true
	}
	return len(keys) == len(indices)
}

func TestIsPartialRepair(t *testing.T) {
	eachIndexList(func(db impl.Database, indices []int, isValid bool) {
		check := watch(t, db, indices)
		if got, want := impl.IsPartialRepair(db, indices), isValid && takesOnePerBlock(db, indices); got != want {
			t.Fatalf("IsPartialRepair(%s, %v) = %v", databaseText(db), indices, got)
		}
		check()
	})
}

func TestSingleBlock(t *testing.T) {
	for s, want := range map[string][][]int{
		"r0/1:r|3":                        {{0}},
		"r0/1:r|3 r|4 r|9":                {{0, 1, 2}},
		"r0/2:r|00 r|01 r|99":             {{0, 1, 2}},
		"r1/2:r5|0 r5|1 r5|2 r5|3":        {{0, 1, 2, 3}},
		"r2/2:r55":                        {{0}},
		"r0/1 s0/1:r|0 r|9 s|0 s|9":       {{0, 1}, {2, 3}},
		"a0/1 b0/1 c0/1:a|0 a|1 c|0":      {{0, 1}, {2}},
		"r1/1 s1/1:r0 s0":                 {{0}, {1}},
		"r1/2 s1/2:r0|0 r0|1 r2|0 s0|0":   {{0, 1}, {2}, {3}},
		"r2/3:r00|0 r00|1 r01|0 r10|0":    {{0, 1}, {2}, {3}},
		"r1/3:r0|00 r0|11 r1|00 r1|10":    {{0, 1}, {2, 3}},
		"r1/2:":                           {},
		":":                               {},
		"r3/3:r000 r001 r010 r100":        {{0}, {1}, {2}, {3}},
		"r0/3:r|000 r|001 r|010 r|100":    {{0, 1, 2, 3}},
		"r1/2 s0/1:r0|0 r0|1 s|0 s|1":     {{0, 1}, {2, 3}},
		"r1/2 s0/1:r0|0 r1|0 r1|1 s|0":    {{0}, {1, 2}, {3}},
		"r1/2 s1/2:r0|0 r0|1 s0|0 s0|1":   {{0, 1}, {2, 3}},
		"r1/2 s1/2:r0|0 r9|0 r9|9 s9|9":   {{0}, {1, 2}, {3}},
		"r1/2:r0|0 r1|1 r2|2 r3|3 r4|4":   {{0}, {1}, {2}, {3}, {4}},
		"r1/1 s0/1 t1/1:r0 s|0 s|1 t0 t1": {{0}, {1, 2}, {3}, {4}},
	} {
		db := database(s)
		if got := impl.Blocks(db); !equalLists(got, want) {
			t.Errorf("Blocks(%s) = %v, want %v", s, got, want)
		}
		for _, block := range want {
			for _, i := range block {
				if got := impl.BlockOf(db, i); !slices.Equal(got, block) {
					t.Errorf("BlockOf(%s, %d) = %v, want %v", s, i, got, block)
				}
			}
		}
	}
	one := database("r0/2:r|00 r|01 r|99")
	if impl.IsConsistent(one) || !slices.Equal(impl.BlockSizes(one), []int{3}) || !slices.Equal(impl.ConflictingFacts(one), []int{0, 1, 2}) {
		t.Error("a relation with a single block")
	}
	if impl.IsPartialRepair(one, []int{0, 2}) || !impl.IsPartialRepair(one, []int{2}) || !impl.IsPartialRepair(one, nil) {
		t.Error("partial repairs of a single block")
	}
}

func TestBlocksOfInvalidDatabases(t *testing.T) {
	for _, db := range invalidDatabases() {
		if got := impl.Blocks(db); len(got) != 0 {
			t.Errorf("Blocks(%v) = %v", db, got)
		}
		for _, i := range []int{-1, 0, 1, 2, 14} {
			if got := impl.BlockOf(db, i); len(got) != 0 {
				t.Errorf("BlockOf(%v, %d) = %v", db, i, got)
			}
		}
		if len(impl.BlockSizes(db)) != 0 || len(impl.ConflictingFacts(db)) != 0 {
			t.Errorf("sizes or conflicts of %v", db)
		}
		if impl.IsConsistent(db) || impl.IsPartialRepair(db, nil) || impl.IsPartialRepair(db, []int{0}) {
			t.Errorf("%v is consistent", db)
		}
	}
	if !impl.IsConsistent(impl.Database{}) || !impl.IsPartialRepair(impl.Database{}, nil) || len(impl.Blocks(impl.Database{})) != 0 {
		t.Error("the zero database")
	}
}

package tests

import (
	"math"
	"slices"
	"testing"

	"loop.example/g01918/impl"
)

// repairsInOrder returns all choices of one fact per block: the last block changes fastest.
func repairsInOrder(db impl.Database) [][]int {
	repairs := [][]int{{}}
	for _, block := range blocksByKey(db) {
		var longer [][]int
		for _, repair := range repairs {
			for _, i := range block {
				longer = append(longer, append(slices.Clone(repair), i))
			}
		}
		repairs = longer
	}
	return repairs
}

func TestRepairsAreRankedAndUnranked(t *testing.T) {
	for _, db := range validDatabases() {
		db = roomy(db)
		repairs := repairsInOrder(db)
		check := watch(t, db)
		if got := impl.CountRepairs(db); got != len(repairs) {
			t.Fatalf("CountRepairs(%s) = %d, want %d", databaseText(db), got, len(repairs))
		}
		for rank, want := range repairs {
			got, ok := impl.NthRepair(db, rank)
			again, _ := impl.NthRepair(db, rank)
			check(got, again)
			if !ok || !slices.Equal(got, want) || !slices.Equal(again, want) {
				t.Fatalf("NthRepair(%s, %d) = %v, %v, want %v", databaseText(db), rank, got, ok, want)
			}
			if back, ok := impl.RepairRank(db, got); !ok || back != rank {
				t.Fatalf("RepairRank(%s, %v) = %d, %v, want %d", databaseText(db), got, back, ok, rank)
			}
		}
		for _, rank := range []int{-1, math.MinInt, len(repairs), len(repairs) + 1, math.MaxInt} {
			if got, ok := impl.NthRepair(db, rank); ok || len(got) != 0 {
				t.Fatalf("NthRepair(%s, %d) = %v, %v", databaseText(db), rank, got, ok)
			}
		}
	}
}

func TestCountIsProductOfBlockSizes(t *testing.T) {
	for _, db := range validDatabases() {
		want := 1
		for _, size := range impl.BlockSizes(db) {
			want *= size
		}
		if got := impl.CountRepairs(db); got != want {
			t.Errorf("CountRepairs(%s) = %d, want %d", databaseText(db), got, want)
		}
	}
	for s, want := range map[string]int{
		"r1/2 s1/2:r0|0 r0|1 r2|0 s0|0 s0|1 s0|2":                                    6,
		"r1/2:r0|0 r0|1 r0|2 r1|0 r1|1 r1|2 r2|0 r2|1 r2|2 r3|0 r3|1 r3|2 r4|0 r4|1": 162,
		"r0/1:r|0 r|1 r|2": 3,
		"r1/1:r0 r1 r2":    1,
	} {
		if got := impl.CountRepairs(database(s)); got != want {
			t.Errorf("CountRepairs(%s) = %d, want %d", s, got, want)
		}
	}
}

func TestNextRepair(t *testing.T) {
	for _, db := range validDatabases() {
		db = roomy(db)
		repairs := repairsInOrder(db)
		for rank, repair := range repairs {
			repair = roomy(repair)
			check := watch(t, db, repair)
			got, ok := impl.NextRepair(db, repair)
			again, _ := impl.NextRepair(db, repair)
			check(got, again)
			isLast := rank == len(repairs)-1
			if ok == isLast || isLast && len(got) != 0 || !isLast && !slices.Equal(got, repairs[rank+1]) || !slices.Equal(got, again) {
				t.Fatalf("NextRepair(%s, %v) = %v, %v", databaseText(db), repair, got, ok)
			}
		}
	}
}

func TestIsRepair(t *testing.T) {
	eachIndexList(func(db impl.Database, indices []int, _ bool) {
		isSame := func(repair []int) bool { return slices.Equal(repair, indices) }
		rank := slices.IndexFunc(repairsInOrder(db), isSame)
		want := rank >= 0
		check := watch(t, db, indices)
		if got := impl.IsRepair(db, indices); got != want {
			t.Fatalf("IsRepair(%s, %v) = %v", databaseText(db), indices, got)
		}
		if got, ok := impl.RepairRank(db, indices); got != max(rank, 0) || ok != want {
			t.Fatalf("RepairRank(%s, %v) = %d, %v", databaseText(db), indices, got, ok)
		}
		if got, ok := impl.NextRepair(db, indices); !want && (ok || len(got) != 0) {
			t.Fatalf("NextRepair(%s, %v) = %v, %v", databaseText(db), indices, got, ok)
		}
		check()
	})
}

func TestExtendToRepair(t *testing.T) {
	eachIndexList(func(db impl.Database, indices []int, isValid bool) {
		check := watch(t, db, indices)
		got, ok := impl.ExtendToRepair(db, indices)
		again, _ := impl.ExtendToRepair(db, indices)
		check(got, again)
		wantOK := isValid && takesOnePerBlock(db, indices)
		var want []int
		if wantOK {
			want = extended(db, indices)
		}
		if ok != wantOK || !slices.Equal(got, want) || !slices.Equal(again, want) || wantOK && !impl.IsRepair(db, got) {
			t.Fatalf("ExtendToRepair(%s, %v) = %v, %v, want %v, %v", databaseText(db), indices, got, ok, want, wantOK)
		}
	})
}

// extended adds the first fact of each key that does not occur yet.
func extended(db impl.Database, indices []int) []int {
	taken := map[string]bool{}
	for _, i := range indices {
		taken[keyText(db, i)] = true
	}
	repair := slices.Clone(indices)
	for i := range db.Facts {
		if key := keyText(db, i); !taken[key] {
			taken[key] = true
			repair = append(repair, i)
		}
	}
	slices.Sort(repair)
	return repair
}

func TestRepairsWithoutBlocks(t *testing.T) {
	for _, db := range []impl.Database{{}, database("r1/2:"), database("a0/1 b0/1 c0/1 d0/1:"), {Facts: []impl.Fact{}}} {
		if got := impl.CountRepairs(db); got != 1 {
			t.Errorf("CountRepairs = %d", got)
		}
		if got, ok := impl.NthRepair(db, 0); !ok || len(got) != 0 {
			t.Errorf("NthRepair = %v, %v", got, ok)
		}
		if _, ok := impl.NthRepair(db, 1); ok {
			t.Error("a second repair")
		}
		if rank, ok := impl.RepairRank(db, nil); !ok || rank != 0 || !impl.IsRepair(db, nil) || !impl.IsRepair(db, []int{}) || impl.IsRepair(db, []int{0}) {
			t.Errorf("RepairRank = %d, %v", rank, ok)
		}
		if got, ok := impl.NextRepair(db, nil); ok || len(got) != 0 {
			t.Errorf("NextRepair = %v, %v", got, ok)
		}
		if got, ok := impl.ExtendToRepair(db, nil); !ok || len(got) != 0 {
			t.Errorf("ExtendToRepair = %v, %v", got, ok)
		}
	}
}

func TestRepairsOfInvalidDatabases(t *testing.T) {
	for _, db := range invalidDatabases() {
		if got := impl.CountRepairs(db); got != 0 {
			t.Errorf("CountRepairs(%v) = %d", db, got)
		}
		for _, rank := range []int{-1, 0, 1} {
			if got, ok := impl.NthRepair(db, rank); ok || len(got) != 0 {
				t.Errorf("NthRepair(%v, %d) = %v, %v", db, rank, got, ok)
			}
		}
		for _, indices := range [][]int{nil, {0}, {0, 1}, {0, 1, 2}, {-1}, {99}} {
			if rank, ok := impl.RepairRank(db, indices); ok || rank != 0 || impl.IsRepair(db, indices) {
				t.Errorf("RepairRank(%v, %v) = %d, %v", db, indices, rank, ok)
			}
			if got, ok := impl.NextRepair(db, indices); ok || len(got) != 0 {
				t.Errorf("NextRepair(%v, %v) = %v, %v", db, indices, got, ok)
			}
			if got, ok := impl.ExtendToRepair(db, indices); ok || len(got) != 0 {
				t.Errorf("ExtendToRepair(%v, %v) = %v, %v", db, indices, got, ok)
			}
		}
	}
}

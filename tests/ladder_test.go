package tests

import (
	"slices"
	"testing"

	"loop.example/g01918/impl"
)

// ladders are all ladder databases, by length and ends.
var ladders = map[[2]int]string{
	{2, 0}: "r0|0 r0|1 r1|0 r1|1 s0|0 s0|1 s1|0 s1|1",
	{2, 1}: "r0|0 r1|0 r1|1 s0|0 s0|1 s1|0 s1|1",
	{2, 2}: "r0|0 r0|1 r1|0 r1|1 s0|0 s0|1 s1|1",
	{2, 3}: "r0|0 r1|0 r1|1 s0|0 s0|1 s1|1",
	{3, 0}: "r0|0 r0|1 r1|1 r1|2 r2|0 r2|2 s0|0 s0|2 s1|0 s1|1 s2|1 s2|2",
	{3, 1}: "r0|0 r1|1 r1|2 r2|0 r2|2 s0|0 s0|2 s1|0 s1|1 s2|1 s2|2",
	{3, 2}: "r0|0 r0|1 r1|1 r1|2 r2|0 r2|2 s0|0 s0|2 s1|1 s2|1 s2|2",
	{3, 3}: "r0|0 r1|1 r1|2 r2|0 r2|2 s0|0 s0|2 s1|1 s2|1 s2|2",
}

func TestLadderDatabase(t *testing.T) {
	if impl.MaxLadderLength != 3 {
		t.Error(impl.MaxLadderLength)
	}
	found := 0
	for _, length := range append([]int{6, 7, 8}, hostileInts...) {
		for _, ends := range append([]int{6, 7, 8}, hostileInts...) {
			check := watch(t)
			got, ok := impl.LadderDatabase(length, ends)
			again, _ := impl.LadderDatabase(length, ends)
			check(got, again)
			facts, want := ladders[[2]int{length, ends}]
			if !want {
				if ok || !isZeroDatabase(got) {
					t.Errorf("%d, %d: %v, %v", length, ends, got, ok)
				}
				continue
			}
			found++
			if db := database("r1/2 s1/2:" + facts); !ok || !sameDatabase(got, db) || !sameDatabase(again, db) || !impl.IsValidDatabase(got) {
				t.Errorf("%d, %d: %v, %v", length, ends, got, ok)
			}
		}
	}
	if found != len(ladders) {
		t.Errorf("%d of %d ladders", found, len(ladders))
	}
}

func TestLadderQuery(t *testing.T) {
	check := watch(t)
	got, again := impl.LadderQuery(), impl.LadderQuery()
	check(got, again)
	want := query(schema("r1/2 s1/2"), "?rx|y sy|x")
	if !sameQuery(got, want) || !sameQuery(again, want) || impl.FormatQuery(schema("r1/2 s1/2"), got) != "?rx|y sy|x" {
		t.Errorf("%v", got)
	}
}

func TestFalsifyingRepairsOfLadders(t *testing.T) {
	want := []int{2, 1, 1, 0}
	for end := range ladders {
		db, ok := impl.LadderDatabase(end[0], end[1])
		q := question{db, impl.LadderQuery()}
		_, falsifying := countsOf(q)
		if !ok || falsifying != want[end[1]] || impl.CountFalsifying(db, q.query) != want[end[1]] {
			t.Errorf("length %d, ends %d: %d falsifying repairs, %v", end[0], end[1], falsifying, ok)
		}
	}
}

// TestFalsifyingRepairsGoAllTheWay has the repairs that show how distant facts depend on each other.
func TestFalsifyingRepairsGoAllTheWay(t *testing.T) {
	for _, c := range []struct {
		length, ends int
		want         []string
	}{
		{2, 0, []string{"r0|0 r1|1 s0|1 s1|0", "r0|1 r1|0 s0|0 s1|1"}},
		{3, 0, []string{"r0|0 r1|1 r2|2 s0|2 s1|0 s2|1", "r0|1 r1|2 r2|0 s0|0 s1|1 s2|2"}},
		{3, 1, []string{"r0|0 r1|1 r2|2 s0|2 s1|0 s2|1"}}, {3, 2, []string{"r0|1 r1|2 r2|0 s0|0 s1|1 s2|2"}}, {3, 3, nil}, {2, 3, nil},
	} {
		db, _ := impl.LadderDatabase(c.length, c.ends)
		var got []string
		repairs, holds := satisfying(question{db, impl.LadderQuery()})
		for i, repair := range repairs {
			if !holds[i] {
				got = append(got, impl.FormatFacts(db, repair))
			}
		}
		if !slices.Equal(got, c.want) {
			t.Errorf("length %d, ends %d: %q, want %q", c.length, c.ends, got, c.want)
		}
	}
}

func TestMethodsOnLadders(t *testing.T) {
	query := impl.LadderQuery()
	for end := range ladders {
		db, _ := impl.LadderDatabase(end[0], end[1])
		want := end[1] == 3
		if got := impl.IsCertain(db, query); got != want || impl.Classify(db.Relations, query) != impl.ClassFixpoint {
			t.Errorf("%v: certain %v", end, got)
		}
		if _, ok := impl.CertainByRewriting(db, query); ok {
			t.Errorf("%v: there is a rewriting", end)
		}
		repair, _, isCertain := impl.CertainBySolver(db, query)
		if isCertain != want || !want && impl.HoldsIn(db, repair, query) || impl.CertainByFixpoint(db, query) != want {
			t.Errorf("%v: the solver says %v, %v, the fixpoint algorithm %v", end, isCertain, repair, impl.CertainByFixpoint(db, query))
		}
		for method := 2; method <= 3; method++ {
			if j, ok := impl.DecideBy(db, query, method); !ok || j.Certain != want || !impl.IsValidJustification(db, query, j) {
				t.Errorf("%v: by method %d: %v, %v", end, method, j, ok)
			}
		}
		if _, ok := impl.DecideBy(db, query, 1); ok {
			t.Errorf("%v: a decision by a rewriting", end)
		}
	}
}

// TestLadderWithoutOneFact shows that a ladder with both ends closed is certain only because of both of them.
func TestLadderWithoutOneFact(t *testing.T) {
	query := impl.LadderQuery()
	for length := 2; length <= impl.MaxLadderLength; length++ {
		closed, _ := impl.LadderDatabase(length, 3)
		for _, f := range []impl.Fact{fact(0, 0, 1), fact(1, 1, 0)} {
			opened, ok := impl.InsertFact(closed, f)
			if !ok || !impl.IsCertain(closed, query) || impl.IsCertain(opened, query) {
				t.Errorf("length %d with %v: certain %v, %v", length, f, impl.IsCertain(opened, query), ok)
			}
		}
	}
}

func TestConflictStatisticsAndInconsistencyMeasure(t *testing.T) {
	measures := map[int]bool{}
	for _, db := range validDatabases() {
		db = roomy(db)
		blocks := blocksByKey(db)
		conflicts, inConflict := 0, 0
		for _, block := range blocks {
			if len(block) > 1 {
				conflicts, inConflict = conflicts+1, inConflict+len(block)
			}
		}
		want := 0
		for len(db.Facts) > 0 && (want+1)*len(db.Facts) <= 100*inConflict {
			want++
		}
		check := watch(t, db)
		gotConflicts, surplus := impl.ConflictStatistics(db)
		measure := impl.InconsistencyMeasure(db)
		check()
		if gotConflicts != conflicts || surplus != len(db.Facts)-len(blocks) || measure != want {
			t.Errorf("%s: %d, %d and %d, want %d, %d and %d", databaseText(db), gotConflicts, surplus, measure, conflicts, len(db.Facts)-len(blocks), want)
		}
		measures[measure] = true
	}
	if len(measures) < 20 {
		t.Error(measures)
	}
}

func TestStatisticsExamples(t *testing.T) {
	for _, c := range []struct {
		db                          string
		conflicts, surplus, measure int
	}{
		{":", 0, 0, 0}, {"r1/2:", 0, 0, 0}, {"r1/2:r0|0", 0, 0, 0}, {"r1/2:r0|0 r1|0", 0, 0, 0}, {"r1/2:r0|0 r0|1", 1, 1, 100},
		{"r1/2:r0|0 r0|1 r1|0", 1, 1, 66}, {"r1/2:r0|0 r0|1 r0|2 r1|0", 1, 2, 75}, {"r1/2 s1/2:r0|0 r0|1 s0|0 s0|1 s1|1 s2|1 s3|1", 2, 2, 57},
		{"r0/1 s1/1:r|0 r|1 r|2 s0 s1 s2 s3", 1, 2, 42}, {"r1/2 s1/2:" + ladders[[2]int{3, 3}], 4, 4, 80}, {"r1/2 s1/2:" + ladders[[2]int{2, 0}], 4, 4, 100},
		{"r0/2:r|00 r|01 r|02 r|03 r|04 r|05 r|06 r|07 r|08 r|09 r|10 r|11 r|12 r|13", 1, 13, 100},
	} {
		db := database(c.db)
		conflicts, surplus := impl.ConflictStatistics(db)
		if conflicts != c.conflicts || surplus != c.surplus || impl.InconsistencyMeasure(db) != c.measure {
			t.Errorf("%s: %d, %d and %d", c.db, conflicts, surplus, impl.InconsistencyMeasure(db))
		}
	}
}

func TestStatisticsOfInvalidDatabases(t *testing.T) {
	for _, db := range invalidDatabases() {
		db = roomy(db)
		check := watch(t, db)
		conflicts, surplus := impl.ConflictStatistics(db)
		measure := impl.InconsistencyMeasure(db)
		check()
		if conflicts != 0 || surplus != 0 || measure != 0 {
			t.Errorf("%v: %d, %d and %d", db, conflicts, surplus, measure)
		}
	}
}

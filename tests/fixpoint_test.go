package tests

import (
	"cmp"
	"math"
	"math/rand"
	"slices"
	"testing"

	"loop.example/g01918/impl"
)

func sizeThenOrder(a, b []int) int {
	return cmp.Or(cmp.Compare(len(a), len(b)), slices.Compare(a, b))
}

// plainPartialRepairs picks the partial repairs among all sets of facts, without the program.
func plainPartialRepairs(db impl.Database, size int) [][]int {
	var repairs [][]int
	for _, set := range subsets(len(db.Facts)) {
		if len(set) <= size && takesOnePerBlock(db, set) {
			repairs = append(repairs, set)
		}
	}
	slices.SortFunc(repairs, sizeThenOrder)
	return repairs
}

func with(set []int, i int) []int {
	if slices.Contains(set, i) {
		return set
	}
	return slices.Sorted(slices.Values(append(slices.Clone(set), i)))
}

// followsBy reports whether the block is disjoint from the set and each fact of it leads to a set that is covered.
func followsBy(block []int, set []int, known [][]int) bool {
	return !slices.ContainsFunc(block, func(i int) bool {
		return slices.Contains(set, i) || !containsSubset(known, with(set, i))
	})
}

// plainFixpoint follows the document, without the program. It also tells in how many passes sets are added.
func plainFixpoint(q question) ([][]int, int) {
	var known, others [][]int
	witnesses, blocks := plainWitnesses(q), blocksByKey(q.db)
	for _, set := range plainPartialRepairs(q.db, len(q.query.Atoms)) {
		if containsSubset(witnesses, set) {
			known = append(known, set)
		} else {
			others = append(others, set)
		}
	}
	for passes := 0; ; passes++ {
		before := len(known)
		var rest [][]int
		for _, set := range others {
			if slices.ContainsFunc(blocks, func(block []int) bool { return followsBy(block, set, known) }) {
				known = append(known, set)
			} else {
				rest = append(rest, set)
			}
		}
		if others = rest; len(known) == before {
			return known, passes
		}
	}
}

func TestPartialRepairsUpTo(t *testing.T) {
	databases := append(randomDatabases(42), database(":"), database("r1/2:"), database("r0/1 s1/1:r|0 r|1 s0 s1"),
		database("r2/2:r00 r01 r02 r03 r04 r05 r06 r07 r08 r09 r10 r11 r12 r99"))
	for _, db := range databases {
		db = roomy(db)
		for size := range 4 {
			check := watch(t, db)
			got, again := impl.PartialRepairsUpTo(db, size), impl.PartialRepairsUpTo(db, size)
			check(got, again)
			if want := plainPartialRepairs(db, size); !equalLists(got, want) || !equalLists(again, want) {
				t.Errorf("%s: up to %d facts: %v, want %v", databaseText(db), size, got, want)
			}
			for i, set := range got {
				if !impl.IsPartialRepair(db, set) || i > 0 && sizeThenOrder(got[i-1], set) >= 0 {
					t.Errorf("%s: %v is no partial repair or not in order", databaseText(db), set)
				}
			}
		}
		for _, size := range hostileInts {
			if got := impl.PartialRepairsUpTo(db, size); (size < 0 || size > 3) && len(got) != 0 {
				t.Errorf("%s: up to %d facts: %v", databaseText(db), size, got)
			}
		}
	}
	for _, db := range invalidDatabases() {
		for size := range 4 {
			if got := impl.PartialRepairsUpTo(db, size); len(got) != 0 {
				t.Errorf("%v: %v", db, got)
			}
		}
	}
}

func TestFixpointSets(t *testing.T) {
	passesSeen := map[int]int{}
	for _, q := range append(questionsUpTo(10), namedQuestions()...) {
		q = q.roomy()
		want, passes := plainFixpoint(q)
		check := watch(t, q.db, q.query)
		got, again := impl.FixpointSets(q.db, q.query), impl.FixpointSets(q.db, q.query)
		check(got, again)
		if !equalLists(got, want) || !equalLists(again, want) {
			t.Errorf("%v: %v, want %v", q, got, want)
		}
		passesSeen[passes]++
	}
	if passesSeen[0] < 20 || passesSeen[1] < 20 || passesSeen[2] < 5 {
		t.Error(passesSeen)
	}
}

func TestQueryHoldsInRepairsThatContainAFixpointSet(t *testing.T) {
	certain := 0
	for _, q := range questions() {
		repairs, holds := satisfying(q)
		sets := impl.FixpointSets(q.db, q.query)
		for i, repair := range repairs {
			if !holds[i] && containsSubset(sets, repair) {
				t.Errorf("%v: %v contains a set of %v", q, repair, sets)
			}
		}
		isEmpty := func(set []int) bool { return len(set) == 0 }
		got := impl.CertainByFixpoint(q.db, q.query)
		if got != slices.ContainsFunc(sets, isEmpty) || got && slices.Contains(holds, false) {
			t.Errorf("%v: CertainByFixpoint is %v", q, got)
		}
		if got && len(q.query.Atoms) > 1 {
			certain++
		}
	}
	if certain < 50 {
		t.Errorf("only %d certain joins", certain)
	}
}

func TestFixpointOfLadders(t *testing.T) {
	for s, want := range map[string]bool{
		"r1/2 s1/2:r0|0 r1|0 r1|1 s0|0 s0|1 s1|1":                               true,
		"r1/2 s1/2:r0|0 r0|1 r1|0 r1|1 s0|0 s0|1 s1|1":                          false,
		"r1/2 s1/2:r0|0 r1|1 r1|2 r2|0 r2|2 s0|0 s0|2 s1|1 s2|1 s2|2":           true,
		"r1/2 s1/2:r0|0 r0|1 r1|1 r1|2 r2|0 r2|2 s0|0 s0|2 s1|0 s1|1 s2|1 s2|2": false,
		"r1/2 s1/2:r0|0 r0|1 r1|1 r1|2 r2|0 r2|2 s0|0 s0|2 s1|1 s2|1 s2|2":      false,
		"r1/2 s1/2:r0|0 s0|0": true, "r1/2 s1/2:r0|0 s1|0": false, "r1/2 s1/2:": false,
	} {
		q := ask(s, "?rx|y sy|x")
		if got := impl.CertainByFixpoint(q.db, q.query); got != want || isPlainCertain(q) != want {
			t.Errorf("%v: %v, want %v", q, got, want)
		}
	}
}

// TestBlockThatIntersectsTheSet has a set of a fact of each block: no block is left for it.
func TestBlockThatIntersectsTheSet(t *testing.T) {
	q := ask("r1/2 s1/2:r0|0 r0|1 s0|0", "?rx|y sy|z")
	if got := impl.FixpointSets(q.db, q.query); !equalLists(got, [][]int{{0, 2}, {0}}) {
		t.Errorf("%v: %v", q, got)
	}
	derivation := []impl.DerivationStep{{Facts: []int{0, 2}, Block: -1}, {Facts: []int{0}, Block: 1}, {Facts: []int{2}, Block: 0}, {Block: 0}}
	if impl.IsValidDerivation(q.db, q.query, derivation) {
		t.Errorf("%v: %v", q, derivation)
	}
	q = ask("r1/2 s1/2 t1/1:r0|0 r0|1 s0|0 s1|0 t0", "?rx|y sy|z")
	good := []impl.DerivationStep{
		{Facts: []int{0, 2}, Block: -1}, {Facts: []int{1, 3}, Block: -1}, {Facts: []int{0, 2}, Block: 2},
		{Facts: []int{0}, Block: 1}, {Facts: []int{1}, Block: 2}, {Block: 0},
	}
	if !impl.IsValidDerivation(q.db, q.query, good) {
		t.Errorf("%v: %v", q, good)
	}
	for _, block := range []int{-1, 0, 1, 2, 3} {
		derivation := cloned(good)
		derivation[2] = impl.DerivationStep{Facts: []int{0, 2}, Block: block}
		want := block == -1 || block == 2 || block == 3
		if got := impl.IsValidDerivation(q.db, q.query, derivation); got != want {
			t.Errorf("%v: with block %d: %v", q, block, got)
		}
	}
}

func TestFixpointOfUnsuitableQuestions(t *testing.T) {
	for _, q := range unsuitableQuestions() {
		if got := impl.FixpointSets(q.db, q.query); len(got) != 0 || impl.CertainByFixpoint(q.db, q.query) {
			t.Errorf("FixpointSets(%v, %v) = %v", q.db, q.query, got)
		}
	}
}

// randomSets returns lists that need be neither ascending nor without duplicates.
func randomSets(random *rand.Rand) [][]int {
	var sets [][]int
	for range random.Intn(7) {
		var set []int
		for range random.Intn(4) {
			set = append(set, []int{0, 1, 2, -1, 64, math.MinInt, math.MaxInt}[random.Intn(2+random.Intn(6))])
		}
		sets = append(sets, set)
	}
	return sets
}

func TestIsCovered(t *testing.T) {
	random := rand.New(rand.NewSource(18))
	counts := map[bool]int{}
	for range 2000 {
		sets := roomy(randomSets(random))
		for _, set := range append(randomSets(random), nil) {
			set = roomy(set)
			check := watch(t, sets, set)
			got := impl.IsCovered(sets, set)
			check()
			if got != containsSubset(sets, set) {
				t.Errorf("IsCovered(%v, %v) = %v", sets, set, got)
			}
			counts[got]++
		}
	}
	if counts[true] < 500 || counts[false] < 500 {
		t.Error(counts)
	}
}

func TestMinimalSets(t *testing.T) {
	random := rand.New(rand.NewSource(81))
	all := [][][]int{nil, {nil}, {nil, {}}, {{0}, nil}, {{1, 2}, {1}, {0, 1}, {3}, {1}}, {{1, 1}, {1}}, {{1, 2}, {1, 1}}, {{2, 1}, {1, 2}}, {{1}, {1, 1}}}
	for range 3000 {
		all = append(all, randomSets(random))
	}
	for _, sets := range all {
		sets = roomy(sets)
		var want [][]int
		for i, set := range sets {
			isCovered := false
			for j, other := range sets {
				isBefore := len(other) < len(set) || len(other) == len(set) && j < i
				isCovered = isCovered || isBefore && isSubset(other, set)
			}
			if !isCovered {
				want = append(want, set)
			}
		}
		check := watch(t, sets)
		got, again := impl.MinimalSets(sets), impl.MinimalSets(sets)
		check(got, again)
		if !equalLists(got, want) || !equalLists(again, want) {
			t.Errorf("MinimalSets(%v) = %v, want %v", sets, got, want)
		}
	}
}

func TestMinimalFixpointSetsCoverAll(t *testing.T) {
	for _, q := range questions() {
		sets := impl.FixpointSets(q.db, q.query)
		minimal := impl.MinimalSets(sets)
		for _, set := range sets {
			if !impl.IsCovered(minimal, set) {
				t.Errorf("%v: %v is not covered by %v", q, set, minimal)
			}
		}
		for i, set := range minimal {
			if impl.IsCovered(slices.Delete(slices.Clone(minimal), i, i+1), set) {
				t.Errorf("%v: %v is not minimal among %v", q, set, minimal)
			}
		}
		if impl.CertainByFixpoint(q.db, q.query) && !equalLists(minimal, [][]int{nil}) {
			t.Errorf("%v: minimal sets %v", q, minimal)
		}
	}
}

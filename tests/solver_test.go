package tests

import (
	"math"
	"math/rand"
	"slices"
	"testing"

	"loop.example/g01918/impl"
)

// plainSearch follows the document, without the program. It also returns what is learned.
func plainSearch(n int, clauses, learned [][]int, assumed []int) ([]bool, [][]int, bool) {
	literals, isConflict := plainPropagation(slices.Concat(clauses, learned), assumed)
	if isConflict {
		return nil, append(learned, opposites(assumed)), false
	}
	model := make([]bool, n)
	for v := 1; v <= n; v++ {
		if slices.Contains(literals, v) || slices.Contains(literals, -v) {
			model[v-1] = slices.Contains(literals, v)
			continue
		}
		for _, literal := range []int{v, -v} {
			found, more, ok := plainSearch(n, clauses, learned, append(slices.Clone(assumed), literal))
			if ok {
				return found, nil, true
			}
			learned = more
		}
		return nil, append(learned, opposites(assumed)), false
	}
	return model, nil, true
}

// checkSolve compares with the document, with all models and with the definition of a proof.
func checkSolve(t *testing.T, n int, clauses [][]int) bool {
	t.Helper()
	clauses = roomy(clauses)
	wantModel, wantLearned, want := plainSearch(n, clauses, nil, nil)
	check := watch(t, clauses)
	model, learned, ok := impl.Solve(n, clauses)
	again, learnedAgain, _ := impl.Solve(n, clauses)
	check(model, learned, again, learnedAgain)
	if ok != want || !slices.Equal(model, wantModel) || !equalLists(learned, wantLearned) || !slices.Equal(again, wantModel) || !equalLists(learnedAgain, wantLearned) {
		t.Errorf("%d, %v: %v, %v, %v, want %v, %v, %v", n, clauses, model, learned, ok, wantModel, wantLearned, want)
	}
	if ok && (len(model) != n || !plainlySatisfies(clauses, model)) {
		t.Errorf("%d, %v: %v is no model", n, clauses, model)
	}
	if !ok && (!isPlainProof(n, clauses, learned) || !impl.IsValidProof(n, clauses, learned)) {
		t.Errorf("%d, %v: %v is no proof", n, clauses, learned)
	}
	if n <= 8 && ok != hasModel(n, clauses) {
		t.Errorf("%d, %v: a model: %v", n, clauses, ok)
	}
	return ok
}

func TestSolve(t *testing.T) {
	counts := map[bool]int{}
	for _, set := range clauseSets(30, 3000) {
		counts[checkSolve(t, set.n, set.clauses)]++
	}
	random := rand.New(rand.NewSource(31))
	for range 400 {
		n := 5 + random.Intn(4)
		clauses := slices.DeleteFunc(randomClauses(random, n, 9*n), func(clause []int) bool { return len(clause) < 2 })
		counts[checkSolve(t, n, clauses)]++
	}
	for range 20 {
		clauses := randomClauses(random, 14, 60)
		clauses = slices.DeleteFunc(clauses, func(clause []int) bool { return len(clause) < 2+random.Intn(2) })
		counts[checkSolve(t, 14, clauses)]++
	}
	if counts[true] < 500 || counts[false] < 500 {
		t.Error(counts)
	}
}

func TestSolveExamples(t *testing.T) {
	square := [][]int{{1, 2}, {1, -2}, {-1, 2}, {-1, -2}}
	for _, c := range []struct {
		n       int
		clauses [][]int
		model   []bool
		learned [][]int
		want    bool
	}{
		{2, square, nil, [][]int{{-1}, {1}, {}}, false},
		{3, square, nil, [][]int{{-1}, {1}, {}}, false},
		{3, [][]int{{2, 3}, {2, -3}, {-2, 3}, {-2, -3}}, nil, [][]int{{-1, -2}, {-1, 2}, {-1}, {1, -2}, {1, 2}, {1}, {}}, false},
		{3, [][]int{{1, 2}, {-1, 3}, {-3, -2}}, []bool{true, false, true}, nil, true},
		{3, [][]int{{-1}}, []bool{false, true, true}, nil, true},
		{3, [][]int{{-1, -2}, {-1, 2}}, []bool{false, true, true}, nil, true},
		{2, [][]int{{1}, {-1}}, nil, [][]int{{}}, false},
		{0, [][]int{{}}, nil, [][]int{{}}, false},
		{14, [][]int{{14}, {}}, nil, [][]int{{}}, false},
		{1, [][]int{{-1}}, []bool{false}, nil, true},
	} {
		model, learned, ok := impl.Solve(c.n, c.clauses)
		if ok != c.want || !slices.Equal(model, c.model) || !equalLists(learned, c.learned) {
			t.Errorf("%d, %v: %v, %v, %v", c.n, c.clauses, model, learned, ok)
		}
	}
}

func TestNoClauses(t *testing.T) {
	for n := range 15 {
		for _, clauses := range [][][]int{nil, {}} {
			model, learned, ok := impl.Solve(n, clauses)
			if !ok || len(learned) != 0 || len(model) != n || slices.Contains(model, false) {
				t.Errorf("%d variables: %v, %v, %v", n, model, learned, ok)
			}
			if got := impl.CountModels(n, clauses); got != 1<<n {
				t.Errorf("%d variables: %d models", n, got)
			}
		}
	}
	for _, n := range []int{math.MinInt, -1, 15, 64, math.MaxInt} {
		if model, learned, ok := impl.Solve(n, nil); ok || len(model) != 0 || len(learned) != 0 {
			t.Errorf("%d variables: %v, %v, %v", n, model, learned, ok)
		}
		if got := impl.CountModels(n, nil); got != 0 {
			t.Errorf("%d variables: %d models", n, got)
		}
	}
	db := database("r1/2 s1/2:")
	if repair, proof, isCertain := impl.CertainBySolver(db, query(db.Relations, "?rx|y")); isCertain || len(repair) != 0 || len(proof) != 0 {
		t.Errorf("without facts: %v, %v, %v", repair, proof, isCertain)
	}
	if repair, ok := impl.RepairFromFacts(db, nil); !ok || len(repair) != 0 {
		t.Errorf("without facts: %v, %v", repair, ok)
	}
}

// TestLearnedClausesDoNotCountAsClauses starts with as many clauses as there may be.
func TestLearnedClausesDoNotCountAsClauses(t *testing.T) {
	square := [][]int{{2, 3}, {2, -3}, {-2, 3}, {-2, -3}}
	full := append(slices.Repeat([][]int{{1, 2}}, impl.MaxClauses-4), square...)
	if checkSolve(t, 3, full) {
		t.Error("400 clauses without a model have one")
	}
	full[397] = []int{3, -2}
	if !checkSolve(t, 3, append(full[:399:399], []int{3, 2, 1})) {
		t.Error("400 clauses with a model have none")
	}
	over := append(full, square[0])
	if model, learned, ok := impl.Solve(3, over); ok || len(model) != 0 || len(learned) != 0 || impl.CountModels(3, over) != 0 {
		t.Errorf("401 clauses: %v, %v, %v", model, learned, ok)
	}
}

// TestLargestSearch has a proof with a clause for every choice of the first variables.
func TestLargestSearch(t *testing.T) {
	square := [][]int{{13, 14}, {13, -14}, {-13, 14}, {-13, -14}}
	_, learned, ok := impl.Solve(14, square)
	if ok || len(learned) != 1<<14-1 || len(learned[0]) != 13 || len(learned[len(learned)-1]) != 0 || impl.CountModels(14, square) != 0 {
		t.Errorf("%d clauses, %v", len(learned), ok)
	}
}

func TestCountModels(t *testing.T) {
	sets := clauseSets(32, 1500)
	for _, set := range sets {
		clauses := roomy(set.clauses)
		want := 0
		for _, model := range models(set.n) {
			if plainlySatisfies(clauses, model) {
				want++
			}
		}
		check := watch(t, clauses)
		got := impl.CountModels(set.n, clauses)
		check()
		if got != want {
			t.Errorf("%d, %v: %d models, want %d", set.n, clauses, got, want)
		}
		if _, _, ok := impl.Solve(set.n, clauses); ok != (got > 0) {
			t.Errorf("%d, %v: %d models, but Solve says %v", set.n, clauses, got, ok)
		}
	}
	for _, c := range []struct {
		n       int
		clauses [][]int
		want    int
	}{
		{14, [][]int{{1}}, 1 << 13}, {14, [][]int{{-14}}, 1 << 13}, {14, [][]int{{1, -14}}, 3 << 12}, {14, [][]int{{13}, {14}, {-1}}, 1 << 11},
		{14, [][]int{{1, 2, 3, 4, 5, 6, 7, 8, 9, 10, 11, 12, 13, 14}}, 1<<14 - 1}, {14, [][]int{{}}, 0}, {0, [][]int{{}}, 0}, {1, [][]int{{1}}, 1},
	} {
		if got := impl.CountModels(c.n, c.clauses); got != c.want {
			t.Errorf("%d, %v: %d models, want %d", c.n, c.clauses, got, c.want)
		}
	}
}

func TestSolveInvalidClauses(t *testing.T) {
	refused := 0
	for _, clauses := range clauseLists() {
		clauses = roomy(clauses)
		for _, n := range hostileInts {
			if arePlainClauses(n, clauses) {
				continue
			}
			refused++
			check := watch(t, clauses)
			model, learned, ok := impl.Solve(n, clauses)
			count := impl.CountModels(n, clauses)
			check()
			if ok || len(model) != 0 || len(learned) != 0 || count != 0 {
				t.Errorf("%d, %v: %v, %v, %v, %d models", n, clauses, model, learned, ok, count)
			}
		}
	}
	if refused < 500 {
		t.Errorf("only %d", refused)
	}
}

func TestSolveValidClauseLists(t *testing.T) {
	for _, clauses := range clauseLists() {
		for _, n := range []int{0, 1, 2, 3} {
			if arePlainClauses(n, clauses) {
				checkSolve(t, n, clauses)
			}
		}
	}
}

func TestCertainBySolver(t *testing.T) {
	counts := map[bool]int{}
	for _, q := range questions() {
		q = q.roomy()
		n, clauses := len(q.db.Facts), impl.FalsityClauses(q.db, q.query)
		model, wantProof, isFalsifiable := plainSearch(n, clauses, nil, nil)
		var wantRepair []int
		if isFalsifiable {
			wantRepair, _ = plainRepairFromFacts(q.db, impl.TrueVariables(model))
		}
		check := watch(t, q.db, q.query)
		repair, proof, isCertain := impl.CertainBySolver(q.db, q.query)
		again, proofAgain, _ := impl.CertainBySolver(q.db, q.query)
		check(repair, proof, again, proofAgain)
		if isCertain == isFalsifiable || !slices.Equal(repair, wantRepair) || !equalLists(proof, wantProof) || !slices.Equal(again, repair) || !equalLists(proofAgain, proof) {
			t.Errorf("%v: %v, %v, %v, want %v, %v", q, repair, proof, isCertain, wantRepair, wantProof)
		}
		if isCertain != isPlainCertain(q) || isCertain != impl.IsCertain(q.db, q.query) {
			t.Errorf("%v: certain: %v", q, isCertain)
		}
		if isCertain && !isPlainProof(n, clauses, proof) {
			t.Errorf("%v: %v is no proof", q, proof)
		}
		if !isCertain && (!impl.IsRepair(q.db, repair) || containsSubset(plainWitnesses(q), repair)) {
			t.Errorf("%v: %v is no falsifying repair", q, repair)
		}
		counts[isCertain]++
	}
	if counts[true] < 50 || counts[false] < 50 {
		t.Error(counts)
	}
}

func TestCertainBySolverExamples(t *testing.T) {
	for _, c := range []struct {
		db, query string
		repair    []int
		proof     [][]int
	}{
		{"r1/2 s1/2:r0|0 r0|1 s0|5 s1|5 s1|6", "?rx|y sy|5", []int{1, 2, 4}, nil},
		{"r1/2 s1/2:r0|0 r0|1 s0|5 s1|5 s1|6", "?rx|y sy|z", nil, [][]int{{}}},
		{"r1/2:r0|0", "?rx|y", nil, [][]int{{}}},
		{"r1/2:r0|0 r0|1", "?r0|7", []int{0}, nil},
		{"r1/2 t0/1:r0|0 r0|1 t|3 t|4", "?r0|0", []int{1, 2}, nil},
	} {
		q := ask(c.db, c.query)
		repair, proof, isCertain := impl.CertainBySolver(q.db, q.query)
		if isCertain != (c.proof != nil) || !slices.Equal(repair, c.repair) || !equalLists(proof, c.proof) {
			t.Errorf("%v: %v, %v, %v", q, repair, proof, isCertain)
		}
	}
}

func TestCertainBySolverOfUnsuitableQuestions(t *testing.T) {
	for _, q := range unsuitableQuestions() {
		q = q.roomy()
		check := watch(t, q.db, q.query)
		repair, proof, isCertain := impl.CertainBySolver(q.db, q.query)
		check()
		if isCertain || len(repair) != 0 || len(proof) != 0 {
			t.Errorf("CertainBySolver(%v, %v) = %v, %v, %v", q.db, q.query, repair, proof, isCertain)
		}
	}
}

// plainRepairFromFacts takes the first given fact of each block, without the program.
func plainRepairFromFacts(db impl.Database, indices []int) ([]int, bool) {
	var repair []int
	for _, block := range blocksByKey(db) {
		i := slices.IndexFunc(indices, func(i int) bool { return slices.Contains(block, i) })
		if i < 0 {
			return nil, false
		}
		repair = append(repair, indices[i])
	}
	return repair, true
}

func TestRepairFromFacts(t *testing.T) {
	counts := map[bool]int{}
	eachIndexList(func(db impl.Database, indices []int, isValid bool) {
		var want []int
		wantOK := false
		if isValid {
			want, wantOK = plainRepairFromFacts(db, indices)
		}
		check := watch(t, db, indices)
		got, ok := impl.RepairFromFacts(db, indices)
		again, _ := impl.RepairFromFacts(db, indices)
		check(got, again)
		if ok != wantOK || !slices.Equal(got, want) || !slices.Equal(again, want) || ok && !impl.IsRepair(db, got) {
			t.Fatalf("RepairFromFacts(%s, %v) = %v, %v, want %v, %v", databaseText(db), indices, got, ok, want, wantOK)
		}
		counts[ok]++
	})
	if counts[true] < 500 || counts[false] < 500 {
		t.Error(counts)
	}
	for _, db := range invalidDatabases() {
		for _, indices := range [][]int{nil, {0}, {0, 1}, {0, 1, 2}} {
			if got, ok := impl.RepairFromFacts(db, indices); ok || len(got) != 0 {
				t.Errorf("RepairFromFacts(%v, %v) = %v, %v", db, indices, got, ok)
			}
		}
	}
}

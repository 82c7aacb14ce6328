package tests

import (
	"math"
	"math/rand"
	"slices"
	"testing"

	"loop.example/g01918/impl"
)

// plainPropagation follows the document, without the program.
func plainPropagation(clauses [][]int, literals []int) ([]int, bool) {
	current := slices.Clone(literals)
	for {
		isForced := false
		for _, clause := range clauses {
			if slices.ContainsFunc(clause, func(literal int) bool { return slices.Contains(current, literal) }) {
				continue
			}
			var open []int
			for _, literal := range clause {
				if !slices.Contains(current, -literal) {
					open = append(open, literal)
				}
			}
			if len(open) == 0 {
				return current, true
			}
			if len(open) == 1 {
				current = append(current, open[0])
				isForced = true
				break
			}
		}
		if !isForced {
			return current, false
		}
	}
}

func opposites(literals []int) []int {
	var all []int
	for _, literal := range literals {
		all = append(all, -literal)
	}
	return all
}

func isPlainProof(n int, clauses, proof [][]int) bool {
	known := slices.Clone(clauses)
	for _, clause := range proof {
		if !isPlainClause(n, clause) {
			return false
		}
		if _, isConflict := plainPropagation(known, opposites(clause)); !isConflict {
			return false
		}
		known = append(known, clause)
	}
	return len(proof) > 0 && len(proof[len(proof)-1]) == 0
}

func hasModel(n int, clauses [][]int) bool {
	return slices.ContainsFunc(models(n), func(model []bool) bool { return plainlySatisfies(clauses, model) })
}

// refute returns a proof that no model has the assumed literals, or false if one has.
func refute(n int, clauses [][]int, assumed []int) ([][]int, bool) {
	if len(assumed) == n {
		model := make([]bool, n)
		for _, literal := range assumed {
			model[max(literal, -literal)-1] = literal > 0
		}
		return [][]int{opposites(assumed)}, !plainlySatisfies(clauses, model)
	}
	var proof [][]int
	next := len(assumed) + 1
	for _, literal := range []int{next, -next} {
		part, ok := refute(n, clauses, append(slices.Clone(assumed), literal))
		if !ok {
			return nil, false
		}
		proof = append(proof, part...)
	}
	return append(proof, opposites(assumed)), true
}

// clauseSets returns valid clauses with their numbers of facts; about half of them have no model.
func clauseSets(seed int64, count int) []struct {
	n       int
	clauses [][]int
} {
	random := rand.New(rand.NewSource(seed))
	var sets []struct {
		n       int
		clauses [][]int
	}
	for range count {
		n := random.Intn(5)
		clauses := randomClauses(random, n, random.Intn(12))
		if random.Intn(3) > 0 {
			clauses = slices.DeleteFunc(clauses, func(clause []int) bool { return len(clause) < 2 })
		}
		sets = append(sets, struct {
			n       int
			clauses [][]int
		}{n, clauses})
	}
	return sets
}

func TestUnitPropagation(t *testing.T) {
	random := rand.New(rand.NewSource(22))
	counts := map[bool]int{}
	grown := 0
	for _, set := range clauseSets(1, 2000) {
		clauses := roomy(set.clauses)
		for range 4 {
			literals := roomy(randomClauses(random, set.n, 1)[0])
			want, wantConflict := plainPropagation(clauses, literals)
			check := watch(t, clauses, literals)
			got, isConflict := impl.UnitPropagation(set.n, clauses, literals)
			again, _ := impl.UnitPropagation(set.n, clauses, literals)
			check(got, again)
			if isConflict != wantConflict || !slices.Equal(got, want) || !slices.Equal(again, want) {
				t.Errorf("%v with %v: %v, %v, want %v, %v", clauses, literals, got, isConflict, want, wantConflict)
			}
			counts[isConflict]++
			grown += len(got) - len(literals)
		}
	}
	if counts[true] < 500 || counts[false] < 500 || grown < 1000 {
		t.Error(counts, grown)
	}
}

func TestPropagationExamples(t *testing.T) {
	chain := [][]int{{13, -14}, {-1, 2}, {-2, 3}, {-3, 4, 5}, {-4, -3}, {-5, 14}}
	for _, c := range []struct {
		n              int
		clauses        [][]int
		literals, want []int
		isConflict     bool
	}{
		{14, chain, nil, nil, false},
		{14, chain, []int{1}, []int{1, 2, 3, -4, 5, 14, 13}, false},
		{14, chain, []int{1, -13}, []int{1, -13, -14, 2, 3, -4, 5}, true},
		{14, chain, []int{-14, 3}, []int{-14, 3, -4, 5}, true},
		{14, nil, []int{14, -13, 1}, []int{14, -13, 1}, false},
		{2, [][]int{{1}, {-1}}, nil, []int{1}, true},
		{2, [][]int{{-1}, {1}}, nil, []int{-1}, true},
		{2, [][]int{{1}, {-1}}, []int{-1}, []int{-1}, true},
		{2, [][]int{{2}, {1}}, nil, []int{2, 1}, false},
		{2, [][]int{{1, 2}, {-2}}, nil, []int{-2, 1}, false},
		{3, [][]int{{1, 2, 3}, {-3}, {-2}}, []int{-1}, []int{-1, -3, 2}, true},
		{1, [][]int{{}}, nil, nil, true},
		{1, [][]int{{1}, {}}, nil, []int{1}, true},
		{1, [][]int{{}, {1}}, nil, nil, true},
		{0, nil, nil, nil, false},
	} {
		got, isConflict := impl.UnitPropagation(c.n, c.clauses, c.literals)
		if !slices.Equal(got, c.want) || isConflict != c.isConflict {
			t.Errorf("%v with %v: %v, %v, want %v, %v", c.clauses, c.literals, got, isConflict, c.want, c.isConflict)
		}
	}
}

func TestTwoConflictingUnitClauses(t *testing.T) {
	for n := 1; n <= impl.MaxFacts; n++ {
		clauses := [][]int{{n}, {-n}}
		if got, isConflict := impl.UnitPropagation(n, clauses, nil); !isConflict || !slices.Equal(got, []int{n}) {
			t.Errorf("%v: %v, %v", clauses, got, isConflict)
		}
		if !impl.IsRUPClause(n, clauses, nil) || !impl.IsRUPClause(n, clauses, []int{1}) || !impl.IsValidProof(n, clauses, [][]int{{}}) {
			t.Errorf("%v is not refuted", clauses)
		}
		if impl.IsRUPClause(n, clauses[:1], nil) || impl.IsValidProof(n, clauses[1:], [][]int{{}}) || !impl.IsRUPClause(n, clauses[1:], []int{-n}) {
			t.Errorf("one of %v is refuted", clauses)
		}
	}
}

func TestPropagationOfInvalidArguments(t *testing.T) {
	for _, clauses := range clauseLists() {
		for _, n := range []int{math.MinInt, -1, 0, 1, 2, 3, 14, 15, math.MaxInt} {
			for _, literals := range [][]int{nil, {}, {1}, {-2, 1}, {1, 1}, {1, -1}, {0}, {15}, {math.MinInt}, {math.MaxInt}} {
				literals := roomy(literals)
				isValid := arePlainClauses(n, clauses) && isPlainClause(n, literals)
				want, wantConflict := slices.Clone(literals), false
				if isValid {
					want, wantConflict = plainPropagation(clauses, literals)
				}
				check := watch(t, literals)
				got, isConflict := impl.UnitPropagation(n, clauses, literals)
				check(got)
				if !slices.Equal(got, want) || isConflict != wantConflict {
					t.Errorf("%d, %v with %v: %v, %v, want %v, %v", n, clauses, literals, got, isConflict, want, wantConflict)
				}
				if isRUP := impl.IsRUPClause(n, clauses, literals); !isValid && isRUP {
					t.Errorf("%d, %v: IsRUPClause %v", n, clauses, literals)
				}
				if isProof := impl.IsValidProof(n, clauses, [][]int{literals, nil}); !isValid && isProof {
					t.Errorf("%d, %v: IsValidProof %v", n, clauses, literals)
				}
			}
		}
	}
}

func TestIsRUPClause(t *testing.T) {
	random := rand.New(rand.NewSource(23))
	counts := map[bool]int{}
	for _, set := range clauseSets(2, 1500) {
		clauses := roomy(set.clauses)
		for _, clause := range randomClauses(random, set.n, 4) {
			clause = roomy(clause)
			_, want := plainPropagation(clauses, opposites(clause))
			check := watch(t, clauses, clause)
			got := impl.IsRUPClause(set.n, clauses, clause)
			check()
			if got != want {
				t.Errorf("%v: IsRUPClause %v: %v", clauses, clause, got)
			}
			for _, model := range models(set.n) {
				if got && plainlySatisfies(clauses, model) && !plainlySatisfies([][]int{clause}, model) {
					t.Errorf("%v does not follow from %v", clause, clauses)
				}
			}
			counts[got]++
		}
	}
	if counts[true] < 500 || counts[false] < 500 {
		t.Error(counts)
	}
}

// checkProof compares with the definition and with all models.
func checkProof(t *testing.T, n int, clauses, proof [][]int) bool {
	t.Helper()
	clauses, proof = roomy(clauses), roomy(proof)
	check := watch(t, clauses, proof)
	got := impl.IsValidProof(n, clauses, proof)
	check()
	if got != (arePlainClauses(n, clauses) && isPlainProof(n, clauses, proof)) {
		t.Errorf("%d, %v: IsValidProof %v: %v", n, clauses, proof, got)
	}
	if got && n <= 5 && hasModel(n, clauses) {
		t.Errorf("%d, %v: %v is valid, but there is a model", n, clauses, proof)
	}
	return got
}

func TestValidProofExcludesEveryModel(t *testing.T) {
	random := rand.New(rand.NewSource(24))
	counts := map[bool]int{}
	for _, set := range clauseSets(3, 1500) {
		var proofs [][][]int
		if proof, ok := refute(set.n, set.clauses, nil); ok {
			if !checkProof(t, set.n, set.clauses, proof) {
				t.Errorf("%v: %v is refused", set.clauses, proof)
			}
			i := random.Intn(len(proof))
			proofs = append(proofs, slices.Delete(slices.Clone(proof), i, i+1), proof[:i], proof[i:], append(slices.Clone(proof), proof[i]))
		}
		for range 4 {
			proofs = append(proofs, append(randomClauses(random, set.n, random.Intn(4)), nil))
		}
		for _, proof := range proofs {
			counts[checkProof(t, set.n, set.clauses, proof)]++
		}
	}
	if counts[true] < 500 || counts[false] < 500 {
		t.Error(counts)
	}
}

func TestProofsForQuestions(t *testing.T) {
	proven := 0
	for _, q := range questionsUpTo(6) {
		n, clauses := len(q.db.Facts), impl.FalsityClauses(q.db, q.query)
		proof, ok := refute(n, clauses, nil)
		if ok != isPlainCertain(q) || ok && !impl.IsValidProof(n, clauses, proof) {
			t.Errorf("%v: %v, %v", q, proof, ok)
		}
		if ok {
			proven++
		}
		if !ok && impl.IsValidProof(n, clauses, [][]int{{}}) {
			t.Errorf("%v is proven", q)
		}
	}
	if proven < 20 {
		t.Errorf("only %d proofs", proven)
	}
}

func TestProofExamples(t *testing.T) {
	square := [][]int{{1, 2}, {1, -2}, {-1, 2}, {-1, -2}}
	for _, c := range []struct {
		n     int
		proof [][]int
		want  bool
	}{
		{2, [][]int{{-1}, {}}, true}, {2, [][]int{{1}, nil}, true}, {2, [][]int{{2}, {}}, true}, {2, [][]int{{1, 2}, {-1}, {}}, true},
		{2, [][]int{{}}, false}, {2, [][]int{{-1}}, false}, {2, nil, false}, {2, [][]int{{}, {-1}}, false}, {2, [][]int{{-1}, {}, {1}}, false},
		{2, [][]int{{-1}, {}, {}}, true}, {2, [][]int{{-1}, {}, {2}, {}}, true}, {2, [][]int{{-1, 1}, {}}, false}, {2, [][]int{{-1}, {3}, {}}, false},
		{3, [][]int{{-1}, {3}, {}}, true}, {3, [][]int{{3}, {-1}, {}}, false}, {2, [][]int{{-1}, {0}, {}}, false}, {1, [][]int{{-1}, {}}, false},
		{2, [][]int{{-1}, {math.MinInt}, {}}, false}, {-1, [][]int{{-1}, {}}, false}, {15, [][]int{{-1}, {}}, false}, {14, [][]int{{-1}, {}}, true},
		{14, [][]int{{-1}, {14, -13}, {}}, true}, {2, [][]int{{1, 2, -1}, {-1}, {}}, false},
	} {
		if got := checkProof(t, c.n, square, c.proof); got != c.want {
			t.Errorf("%d, %v: %v", c.n, c.proof, got)
		}
	}
}

func TestProofsDoNotCountAsClauses(t *testing.T) {
	square := [][]int{{1, 2}, {1, -2}, {-1, 2}, {-1, -2}}
	full := append(slices.Repeat([][]int{{1, 2}}, 396), square...)
	for _, steps := range []int{1, 2, 500, 1000} {
		proof := append(slices.Repeat([][]int{{-1}}, steps), nil)
		if !checkProof(t, 2, full, proof) {
			t.Errorf("400 clauses and %d steps are refused", steps)
		}
		if checkProof(t, 2, append(full, []int{1, 2}), proof) {
			t.Errorf("401 clauses and %d steps are accepted", steps)
		}
	}
	if !impl.IsRUPClause(2, full, []int{-1}) || impl.IsRUPClause(2, append(full, []int{1, 2}), []int{-1}) {
		t.Error("the limit of IsRUPClause")
	}
}

func TestNegateLiterals(t *testing.T) {
	for _, literals := range [][]int{nil, {}, {0}, {1, -2}, {3, 3, -3}, {math.MaxInt, math.MinInt + 1}, {64, -65}} {
		literals = roomy(literals)
		check := watch(t, literals)
		got, again := impl.NegateLiterals(literals), impl.NegateLiterals(literals)
		check(got, again)
		if !slices.Equal(got, opposites(literals)) || !slices.Equal(again, got) {
			t.Errorf("NegateLiterals(%v) = %v", literals, got)
		}
	}
	if got := impl.NegateLiterals([]int{math.MinInt, 7}); len(got) != 2 || got[1] != -7 {
		t.Errorf("with the smallest number: %v", got)
	}
}

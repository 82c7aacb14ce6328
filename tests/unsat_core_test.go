package tests

import (
	"math"
	"math/rand"
	"slices"
	"testing"

	"loop.example/g01918/impl"
)

func isPlainlyProven(n int, clauses, proof [][]int) bool {
	return arePlainClauses(n, clauses) && isPlainProof(n, clauses, proof)
}

// omit returns the items without the one at this index.
func omit[T any](items []T, index int) []T {
	return slices.Delete(slices.Clone(items), index, index+1)
}

// plainTrim follows the document, without the program.
func plainTrim(n int, clauses, proof [][]int) [][]int {
	if !isPlainlyProven(n, clauses, proof) {
		return proof
	}
	for i := len(proof) - 2; i >= 0; i-- {
		if isPlainlyProven(n, clauses, omit(proof, i)) {
			proof = omit(proof, i)
		}
	}
	return proof
}

func plainSelection(clauses [][]int, indices []int) [][]int {
	var selected [][]int
	for _, i := range indices {
		if i >= 0 && i < len(clauses) {
			selected = append(selected, clauses[i])
		}
	}
	return selected
}

// plainCore follows the document, without the program.
func plainCore(n int, clauses, proof [][]int) []int {
	if !isPlainlyProven(n, clauses, proof) {
		return nil
	}
	core := numbersUpTo(len(clauses))
	for i := len(core) - 1; i >= 0; i-- {
		if isPlainlyProven(n, plainSelection(clauses, omit(core, i)), proof) {
			core = omit(core, i)
		}
	}
	return core
}

// refutation is a list of clauses with a list that need not be a proof.
type refutation struct {
	n       int
	clauses [][]int
	proof   [][]int
}

// refutations returns proofs of the solver, of a plain search, with clauses that are not needed, and lists that are no proofs.
func refutations(seed int64, count int) []refutation {
	random := rand.New(rand.NewSource(seed))
	var sets []refutation
	for _, set := range clauseSets(seed, count) {
		sets = append(sets, refutation{n: set.n, clauses: set.clauses})
	}
	for range count / 15 {
		isShort := func(clause []int) bool { return len(clause) < 3 }
		sets = append(sets, refutation{n: 6, clauses: slices.DeleteFunc(randomClauses(random, 6, 170), isShort)})
	}
	var all []refutation
	for i, set := range sets {
		_, learned, _ := plainSearch(set.n, set.clauses, nil, nil)
		proofs := [][][]int{learned, append(randomClauses(random, set.n, random.Intn(4)), nil)}
		if long, ok := refute(set.n, set.clauses, nil); ok && i%3 == 0 && set.n < 6 {
			proofs = append(proofs, long, long[:len(long)-1])
		}
		if len(learned) > 0 {
			padded := slices.Insert(slices.Clone(learned), random.Intn(len(learned)), set.clauses...)
			proofs = append(proofs, padded, slices.Concat(learned, [][]int{{}}))
		}
		for _, proof := range proofs {
			all = append(all, refutation{set.n, set.clauses, proof})
		}
	}
	return all
}

func TestTrimProof(t *testing.T) {
	counts := map[string]int{}
	for _, r := range refutations(48, 1200) {
		clauses, proof := roomy(r.clauses), roomy(r.proof)
		want := plainTrim(r.n, clauses, proof)
		check := watch(t, clauses, proof)
		got, again := impl.TrimProof(r.n, clauses, proof), impl.TrimProof(r.n, clauses, proof)
		check(got, again)
		if !equalLists(got, want) || !equalLists(again, want) {
			t.Errorf("%d, %v: %v is trimmed to %v, want %v", r.n, clauses, proof, got, want)
		}
		switch {
		case !isPlainlyProven(r.n, clauses, proof):
			counts["invalid"]++
			continue
		case len(got) == len(proof):
			counts["same"]++
		case len(got) > 1:
			counts["shorter"]++
		default:
			counts["one"]++
		}
		if !impl.IsValidProof(r.n, clauses, got) || !isPlainlyProven(r.n, clauses, got) {
			t.Errorf("%d, %v: %v is trimmed to %v, which is not valid", r.n, clauses, proof, got)
		}
		for i := range len(got) - 1 {
			if impl.IsValidProof(r.n, clauses, omit(got, i)) {
				t.Errorf("%d, %v: %v is trimmed to %v, with a clause that is not needed", r.n, clauses, proof, got)
			}
		}
	}
	for _, kind := range []string{"invalid", "same", "shorter", "one"} {
		if counts[kind] < 50 {
			t.Error(counts)
		}
	}
}

func TestUnsatCore(t *testing.T) {
	counts := map[string]int{}
	for _, r := range refutations(49, 1200) {
		clauses, proof := roomy(r.clauses), roomy(r.proof)
		want := plainCore(r.n, clauses, proof)
		check := watch(t, clauses, proof)
		got, again := impl.UnsatCore(r.n, clauses, proof), impl.UnsatCore(r.n, clauses, proof)
		check(got, again)
		if !slices.Equal(got, want) || !slices.Equal(again, want) {
			t.Errorf("%d, %v: the core for %v is %v, want %v", r.n, clauses, proof, got, want)
		}
		switch {
		case !isPlainlyProven(r.n, clauses, proof):
			counts["invalid"]++
			continue
		case len(got) == len(clauses):
			counts["all"]++
		default:
			counts["fewer"]++
		}
		if core := impl.SelectClauses(clauses, got); !impl.IsValidProof(r.n, core, proof) || hasModel(r.n, core) {
			t.Errorf("%d, %v: the core %v for %v has a model or another proof", r.n, clauses, got, proof)
		}
		for i := range got {
			if impl.IsValidProof(r.n, impl.SelectClauses(clauses, omit(got, i)), proof) {
				t.Errorf("%d, %v: the clause %d of the core %v for %v can be omitted", r.n, clauses, got[i], got, proof)
			}
		}
	}
	for _, kind := range []string{"invalid", "all", "fewer"} {
		if counts[kind] < 50 {
			t.Error(counts)
		}
	}
}

func TestCoreExamples(t *testing.T) {
	square := [][]int{{1, 2}, {1, -2}, {-1, 2}, {-1, -2}, {1, 3}}
	for _, c := range []struct {
		n                       int
		clauses, proof, shorter [][]int
		core                    []int
	}{
		{3, square, [][]int{{-1}, {1}, {}}, [][]int{{-1}, {}}, []int{0, 1, 2, 3}},
		{3, square, [][]int{{1}, {-1}, {}}, [][]int{{1}, {}}, []int{0, 1, 2, 3}},
		{3, square, [][]int{{1, 2}, {-1}, {}}, [][]int{{-1}, {}}, []int{0, 1, 2, 3}},
		{3, square, [][]int{{-1}, {2, 3}, {}, {}}, [][]int{{-1}, {}}, []int{0, 1, 2, 3}},
		{3, append([][]int{{1, 2}}, square...), [][]int{{-1}, {}}, [][]int{{-1}, {}}, []int{0, 2, 3, 4}},
		{3, append([][]int{{1}}, square...), [][]int{{-1}, {}}, [][]int{{}}, []int{0, 3, 4}},
		{3, square[:3], [][]int{{-1}, {1}, {}}, [][]int{{-1}, {1}, {}}, nil},
		{2, square, [][]int{{-1}, {1}, {}}, [][]int{{-1}, {1}, {}}, nil},
		{3, square, [][]int{{-1}}, [][]int{{-1}}, nil}, {3, square, nil, nil, nil}, {3, square, [][]int{{-1}, {4}, {}}, [][]int{{-1}, {4}, {}}, nil},
		{3, append(square, []int{0}), [][]int{{-1}, {}}, [][]int{{-1}, {}}, nil},
	} {
		if got := impl.TrimProof(c.n, c.clauses, c.proof); !equalLists(got, c.shorter) {
			t.Errorf("%d, %v: %v is trimmed to %v, want %v", c.n, c.clauses, c.proof, got, c.shorter)
		}
		if got := impl.UnsatCore(c.n, c.clauses, c.proof); !slices.Equal(got, c.core) {
			t.Errorf("%d, %v: the core for %v is %v, want %v", c.n, c.clauses, c.proof, got, c.core)
		}
	}
}

func TestProofWithASingleClause(t *testing.T) {
	for _, c := range []struct {
		n       int
		clauses [][]int
		core    []int
		isValid bool
	}{
		{1, [][]int{{1}, {-1}}, []int{0, 1}, true}, {1, [][]int{{1}, {-1}, {1}, {-1}}, []int{0, 1}, true}, {1, [][]int{{1}, {1}, {-1}}, []int{0, 2}, true},
		{0, [][]int{{}}, []int{0}, true}, {0, [][]int{{}, {}}, []int{0}, true}, {14, [][]int{{14}, {}, {-14}}, []int{1}, true}, {14, [][]int{{14}, {-14}, {}}, []int{0, 1}, true},
		{2, [][]int{{1, 2}, {-1}, {-2}, {1, -2}}, []int{0, 1, 2}, true}, {2, [][]int{{1, 2}, {1, -2}, {-1, 2}, {-1, -2}}, nil, false},
		{1, [][]int{{1}}, nil, false}, {0, nil, nil, false},
	} {
		proof := [][]int{{}}
		if got := impl.TrimProof(c.n, c.clauses, proof); !equalLists(got, proof) || impl.IsValidProof(c.n, c.clauses, got) != c.isValid {
			t.Errorf("%d, %v: trimmed to %v", c.n, c.clauses, got)
		}
		if got := impl.UnsatCore(c.n, c.clauses, proof); !slices.Equal(got, c.core) {
			t.Errorf("%d, %v: the core is %v, want %v", c.n, c.clauses, got, c.core)
		}
	}
}

func TestCoreOfAsManyClausesAsThereCanBe(t *testing.T) {
	square := [][]int{{1, 2}, {1, -2}, {-1, 2}, {-1, -2}}
	full := append(slices.Repeat([][]int{{13, -14}}, 396), square...)
	proof := append(slices.Repeat([][]int{{-1}}, 60), nil)
	if got := impl.UnsatCore(14, full, proof); !slices.Equal(got, []int{396, 397, 398, 399}) {
		t.Errorf("the core is %v", got)
	}
	if got := impl.TrimProof(14, full, proof); !equalLists(got, [][]int{{-1}, {}}) {
		t.Errorf("trimmed to %v", got)
	}
	more := append(full, []int{1})
	if got := impl.UnsatCore(14, more, proof); len(got) != 0 {
		t.Errorf("the core of 401 clauses is %v", got)
	}
	if got := impl.TrimProof(14, more, proof); !equalLists(got, proof) {
		t.Errorf("trimmed to %v with 401 clauses", got)
	}
}

func TestCoresOfInvalidArguments(t *testing.T) {
	for _, clauses := range clauseLists() {
		for _, n := range []int{math.MinInt, -1, 0, 1, 2, 14, 15, math.MaxInt} {
			for _, proof := range [][][]int{nil, {{}}, {{1}, {}}, {{-2, 1}, {-1}, {}}, {{0}, {}}, {{math.MinInt}, {}}, {{math.MaxInt, 1}, {}}, {{}, {1}}} {
				proof := roomy(proof)
				if isPlainlyProven(n, clauses, proof) {
					continue
				}
				check := watch(t, proof)
				trimmed, core := impl.TrimProof(n, clauses, proof), impl.UnsatCore(n, clauses, proof)
				check(trimmed, core)
				if !equalLists(trimmed, proof) || len(core) != 0 {
					t.Errorf("%d, %v: %v is trimmed to %v, the core is %v", n, clauses, proof, trimmed, core)
				}
			}
		}
	}
}

func TestSelectClauses(t *testing.T) {
	lists := [][][]int{nil, {{}}, {{1, 2}, {}, {-3}}, {{math.MinInt, 0}, {1, 1}, {5}, {99}}, slices.Repeat([][]int{{7}}, 500)}
	indexLists := [][]int{nil, {0}, {2, 0, 1}, {1, 1, 1}, {-1, 3, 0, 9}, hostileInts, {499, 500, 2}, {2, -1, 2}}
	for _, clauses := range lists {
		for _, indices := range indexLists {
			clauses, indices := roomy(clauses), roomy(indices)
			want := plainSelection(clauses, indices)
			check := watch(t, clauses, indices)
			got, again := impl.SelectClauses(clauses, indices), impl.SelectClauses(clauses, indices)
			check(got, again)
			if !equalLists(got, want) || !equalLists(again, want) {
				t.Errorf("%v of %v: %v, want %v", indices, clauses, got, want)
			}
		}
	}
}

func TestResponsibleFacts(t *testing.T) {
	counts := map[string]int{}
	for _, q := range questions() {
		q = q.roomy()
		n, clauses := len(q.db.Facts), impl.FalsityClauses(q.db, q.query)
		isCertain := isPlainCertain(q)
		var want []int
		if isCertain {
			_, proof, _ := plainSearch(n, clauses, nil, nil)
			for _, clause := range plainSelection(clauses, plainCore(n, clauses, proof)) {
				for _, literal := range clause {
					want = append(want, max(literal, -literal)-1)
				}
			}
			slices.Sort(want)
			want = slices.Compact(want)
		}
		check := watch(t, q.db, q.query)
		got, ok := impl.ResponsibleFacts(q.db, q.query)
		again, _ := impl.ResponsibleFacts(q.db, q.query)
		check(got, again)
		if ok != isCertain || !slices.Equal(got, want) || !slices.Equal(again, want) {
			t.Errorf("%v: %v, %v, want %v, %v", q, got, ok, want, isCertain)
		}
		switch {
		case !ok:
			counts["none"]++
		case len(got) < n:
			counts["some"]++
		default:
			counts["all"]++
		}
	}
	if counts["none"] < 50 || counts["some"] < 50 || counts["all"] < 5 {
		t.Error(counts)
	}
}

// TestResponsibleFactsSuffice keeps the blocks of the responsible facts only: the query is certain there too.
func TestResponsibleFactsSuffice(t *testing.T) {
	smaller := 0
	for _, q := range questions() {
		facts, ok := impl.ResponsibleFacts(q.db, q.query)
		if !ok {
			continue
		}
		var kept []int
		for i := range q.db.Facts {
			if slices.ContainsFunc(facts, func(f int) bool { return keyText(q.db, f) == keyText(q.db, i) }) {
				kept = append(kept, i)
			}
		}
		if !isPlainCertain(question{part(q.db, kept), q.query}) {
			t.Errorf("%v: the blocks of %v do not suffice", q, facts)
		}
		if len(kept) < len(q.db.Facts) {
			smaller++
		}
	}
	if smaller < 50 {
		t.Errorf("only %d questions have other blocks", smaller)
	}
}

func TestResponsibleFactsExamples(t *testing.T) {
	for _, c := range []struct {
		db, query string
		want      []int
		ok        bool
	}{
		{"r1/2 s1/2:r0|0 r0|1 r5|5 s0|5 s1|5", "?rx|y sy|z", []int{0, 1, 3, 4}, true}, {"r1/2 s1/2:r0|0 r0|1 r5|5 s0|5 s1|5 s5|5", "?rx|y sy|z", []int{0, 1, 3, 4}, true},
		{"r1/2 s1/2:r0|0 r5|5 r5|6 s0|5 s5|5 s6|5", "?rx|y sy|z", []int{0, 3}, true},
		{"r1/2 s1/2:r0|0 r0|1 r5|5 s0|5 s1|5", "?r0|0", nil, false}, {"r1/2 s1/2:r0|0 r0|1 r5|5 s0|5 s1|5", "?r5|x", []int{2}, true},
		{"r1/2:r0|0 r0|1", "?rx|y", []int{0, 1}, true}, {"r1/2:r0|0 r0|1", "x?rx|y", []int{0, 1}, true}, {"r1/2:", "?rx|y", nil, false},
		{"r1/2 s1/2:r0|0 s0|0", "?rx|y sy|x", []int{0, 1}, true}, {"r1/2 s1/2:r0|0 r0|1 s0|0", "?rx|y sy|x", nil, false},
	} {
		q := ask(c.db, c.query)
		if got, ok := impl.ResponsibleFacts(q.db, q.query); ok != c.ok || !slices.Equal(got, c.want) {
			t.Errorf("%v: %v, %v, want %v, %v", q, got, ok, c.want, c.ok)
		}
	}
}

func TestResponsibleFactsOfUnsuitableQuestions(t *testing.T) {
	for _, q := range unsuitableQuestions() {
		q = q.roomy()
		check := watch(t, q.db, q.query)
		got, ok := impl.ResponsibleFacts(q.db, q.query)
		check(got)
		if ok || len(got) != 0 {
			t.Errorf("%v, %v: %v, %v", q.db, q.query, got, ok)
		}
	}
}

package tests

import (
	"math"
	"slices"
	"testing"

	"loop.example/g01918/impl"
)

// plainEmbeddings tries all lists of facts in lexicographic order, without the program.
func plainEmbeddings(q question) []impl.Embedding {
	var all []impl.Embedding
	var indices []int
	for i := range q.db.Facts {
		indices = append(indices, i)
	}
	for _, facts := range rowsOver(indices, len(q.query.Atoms)) {
		if values, ok := plainValues(q, facts); ok {
			all = append(all, impl.Embedding{Values: values, Facts: facts})
		}
	}
	return all
}

// plainValues returns the values of the variables if the facts fit the atoms.
func plainValues(q question, facts []int) ([]int, bool) {
	values := make([]int, q.query.VariableCount)
	known := map[int]int{}
	for i, a := range q.query.Atoms {
		f := q.db.Facts[facts[i]]
		if f.Relation != a.Relation {
			return nil, false
		}
		for column, term := range a.Terms {
			value := f.Values[column]
			if term < 0 {
				if value != -1-term {
					return nil, false
				}
				continue
			}
			if old, ok := known[term]; ok && old != value {
				return nil, false
			}
			known[term], values[term] = value, value
		}
	}
	return values, true
}

// plainWitnesses returns the facts of each embedding in ascending order, without the program.
func plainWitnesses(q question) [][]int {
	var witnesses [][]int
	for _, e := range plainEmbeddings(q) {
		witnesses = append(witnesses, slices.Sorted(slices.Values(e.Facts)))
	}
	return witnesses
}

func sameEmbedding(a, b impl.Embedding) bool {
	return slices.Equal(a.Values, b.Values) && slices.Equal(a.Facts, b.Facts)
}

func sameEmbeddings(a, b []impl.Embedding) bool {
	return slices.EqualFunc(a, b, sameEmbedding)
}

func TestFindEmbeddings(t *testing.T) {
	total, most := 0, 0
	for _, q := range questions() {
		q = q.roomy()
		want := plainEmbeddings(q)
		check := watch(t, q.db, q.query)
		got, again := impl.FindEmbeddings(q.db, q.query), impl.FindEmbeddings(q.db, q.query)
		check(got, again)
		if !sameEmbeddings(got, want) || !sameEmbeddings(again, want) {
			t.Errorf("%v: %v, want %v", q, got, want)
		}
		if !slices.IsSortedFunc(got, func(a, b impl.Embedding) int { return slices.Compare(a.Facts, b.Facts) }) {
			t.Errorf("%v: %v is not in order", q, got)
		}
		total, most = total+len(got), max(most, len(got))
	}
	if total < 1000 || most != 100 {
		t.Errorf("%d embeddings, at most %d of a query", total, most)
	}
}

func TestEmbeddingsInTheOrderOfTheAtoms(t *testing.T) {
	q := ask("r1/2 s1/2:r0|0 r0|1 r2|1 s0|5 s1|5 s1|6", "?sy|z rx|y")
	want := []impl.Embedding{
		{Values: []int{0, 0, 5}, Facts: []int{3, 0}}, {Values: []int{0, 1, 5}, Facts: []int{4, 1}}, {Values: []int{2, 1, 5}, Facts: []int{4, 2}},
		{Values: []int{0, 1, 6}, Facts: []int{5, 1}}, {Values: []int{2, 1, 6}, Facts: []int{5, 2}},
	}
	if got := impl.FindEmbeddings(q.db, q.query); !sameEmbeddings(got, want) {
		t.Errorf("%v, want %v", got, want)
	}
	if got, want := impl.Witnesses(q.db, q.query), [][]int{{0, 3}, {1, 4}, {2, 4}, {1, 5}, {2, 5}}; !equalLists(got, want) {
		t.Errorf("%v, want %v", got, want)
	}
}

func TestVariableTwiceInAnAtom(t *testing.T) {
	const db = "r1/3:r0|00 r0|01 r0|11 r1|01 r1|10 r2|22"
	for text, want := range map[string][]int{
		"?rx|xx": {0, 5}, "?rx|yy": {0, 2, 5}, "?rx|yx": {0, 3, 5}, "?rx|xy": {0, 1, 4, 5}, "?r0|xx": {0, 2}, "?rx|x2": {5},
	} {
		q := ask(db, text)
		var got []int
		for _, e := range impl.FindEmbeddings(q.db, q.query) {
			got = append(got, e.Facts...)
		}
		if !slices.Equal(got, want) || !slices.Equal(impl.RelevantFacts(q.db, q.query), want) {
			t.Errorf("%s: %v, want %v", text, got, want)
		}
	}
}

func TestWitnessesAndRelevantFacts(t *testing.T) {
	for _, q := range questions() {
		q = q.roomy()
		want := plainWitnesses(q)
		var relevant []int
		for i := range q.db.Facts {
			if slices.ContainsFunc(want, func(witness []int) bool { return slices.Contains(witness, i) }) {
				relevant = append(relevant, i)
			}
		}
		check := watch(t, q.db, q.query)
		got, again := impl.Witnesses(q.db, q.query), impl.Witnesses(q.db, q.query)
		facts, factsAgain := impl.RelevantFacts(q.db, q.query), impl.RelevantFacts(q.db, q.query)
		check(got, again, facts, factsAgain)
		if !equalLists(got, want) || !equalLists(again, want) {
			t.Errorf("%v: witnesses %v, want %v", q, got, want)
		}
		if !slices.Equal(facts, relevant) || !slices.Equal(factsAgain, relevant) {
			t.Errorf("%v: relevant facts %v, want %v", q, facts, relevant)
		}
	}
}

func TestHoldsInExactlyWithAWitness(t *testing.T) {
	for _, q := range questionsUpTo(8) {
		q = q.roomy()
		witnesses := plainWitnesses(q)
		for _, indices := range subsets(len(q.db.Facts)) {
			if got := impl.HoldsIn(q.db, indices, q.query); got != containsSubset(witnesses, indices) {
				t.Fatalf("%v: HoldsIn %v is %v", q, indices, got)
			}
		}
		indices := roomy([]int{0, 1, 2}[:min(3, len(q.db.Facts))])
		check := watch(t, q.db, indices, q.query)
		impl.HoldsIn(q.db, indices, q.query)
		check()
	}
	for _, q := range questions() {
		for _, indices := range badIndexLists(len(q.db.Facts)) {
			if impl.HoldsIn(q.db, indices, q.query) {
				t.Errorf("%v: HoldsIn %v", q, indices)
			}
		}
	}
}

func TestBoundQueryKeepsTheEmbeddingsWithThatValue(t *testing.T) {
	for _, q := range questions() {
		embeddings := plainEmbeddings(q)
		for variable := range q.query.VariableCount {
			for value := range impl.MaxValue + 1 {
				bound, ok := impl.BindVariable(q.query, variable, value)
				if !ok || !isPlainQuery(q.db.Relations, bound) || bound.VariableCount != q.query.VariableCount-1 {
					t.Fatalf("%v: variable %d is bound to %d as %v, %v", q, variable, value, bound, ok)
				}
				var want []impl.Embedding
				for _, e := range embeddings {
					if e.Values[variable] == value {
						values := slices.Delete(slices.Clone(e.Values), variable, variable+1)
						want = append(want, impl.Embedding{Values: values, Facts: e.Facts})
					}
				}
				if got := impl.FindEmbeddings(q.db, bound); !sameEmbeddings(got, want) {
					t.Fatalf("%v: variable %d is %d in %v, want %v", q, variable, value, got, want)
				}
			}
		}
	}
}

// plainBinding replaces the variable without the program.
func plainBinding(q impl.Query, variable int, value int) impl.Query {
	shift := func(n int) int {
		if n > variable {
			return n - 1
		}
		return n
	}
	bound := impl.Query{VariableCount: q.VariableCount - 1}
	for _, a := range q.Atoms {
		b := atom(a.Relation)
		for _, term := range a.Terms {
			if term == variable {
				b.Terms = append(b.Terms, -1-value)
			} else {
				b.Terms = append(b.Terms, shift(term))
			}
		}
		bound.Atoms = append(bound.Atoms, b)
	}
	for _, v := range q.Free {
		if v != variable {
			bound.Free = append(bound.Free, shift(v))
		}
	}
	return bound
}

func TestBindVariable(t *testing.T) {
	_, sample := sampleQuery()
	queries := []impl.Query{sample, {}, {VariableCount: math.MaxInt, Free: []int{math.MaxInt, math.MinInt, 3, 3}}, {VariableCount: -1, Atoms: []impl.Atom{atom(-7)}}}
	for _, q := range append(queries, changedQueries()...) {
		q = roomy(q)
		for _, variable := range []int{math.MinInt, -1, 0, 1, 2, 3, 4, math.MaxInt - 1, math.MaxInt} {
			for _, value := range []int{math.MinInt, -1, 0, 9, 10} {
				want, wantOK := q, variable >= 0 && variable < q.VariableCount && value >= 0 && value <= 9
				if wantOK {
					want = plainBinding(q, variable, value)
				}
				check := watch(t, q)
				got, ok := impl.BindVariable(q, variable, value)
				check(got)
				if ok != wantOK || !sameQuery(got, want) {
					t.Fatalf("BindVariable(%v, %d, %d) = %v, %v, want %v, %v", q, variable, value, got, ok, want, wantOK)
				}
			}
		}
	}
}

func TestIsQueryFor(t *testing.T) {
	for _, q := range questions() {
		q = q.roomy()
		check := watch(t, q.db, q.query)
		if !impl.IsQueryFor(q.db, q.query) {
			t.Errorf("%v is unsuitable", q)
		}
		check()
	}
}

func TestEmbeddingsOfUnsuitableQuestions(t *testing.T) {
	for _, q := range unsuitableQuestions() {
		q = q.roomy()
		check := watch(t, q.db, q.query)
		if impl.IsQueryFor(q.db, q.query) {
			t.Errorf("%v is suitable", q)
		}
		if got := impl.FindEmbeddings(q.db, q.query); len(got) != 0 {
			t.Errorf("%v: embeddings %v", q, got)
		}
		if got := impl.Witnesses(q.db, q.query); len(got) != 0 {
			t.Errorf("%v: witnesses %v", q, got)
		}
		if got := impl.RelevantFacts(q.db, q.query); len(got) != 0 {
			t.Errorf("%v: relevant facts %v", q, got)
		}
		for _, indices := range [][]int{nil, {0}, {0, 1}, {0, 1, 2, 3, 4, 5}, {-1}} {
			if impl.HoldsIn(q.db, indices, q.query) {
				t.Errorf("%v: HoldsIn %v", q, indices)
			}
		}
		check()
	}
}

func TestEqualEmbeddings(t *testing.T) {
	embeddings := []impl.Embedding{
		{}, {Values: []int{}, Facts: []int{}}, {Values: []int{0}}, {Facts: []int{0}}, {Values: []int{0}, Facts: []int{0}}, {Values: []int{1}, Facts: []int{0}},
		{Values: []int{0}, Facts: []int{1}}, {Values: []int{0, 0}, Facts: []int{0}}, {Values: []int{0}, Facts: []int{0, 0}},
		{Values: []int{math.MinInt}, Facts: []int{math.MaxInt}}, {Values: []int{0, 1}, Facts: []int{1, 0}}, {Values: []int{1, 0}, Facts: []int{0, 1}},
	}
	for _, a := range embeddings {
		for _, b := range embeddings {
			a, b := roomy(a), roomy(b)
			check := watch(t, a, b)
			if got := impl.EqualEmbeddings(a, b); got != sameEmbedding(a, b) {
				t.Errorf("EqualEmbeddings(%v, %v) = %v", a, b, got)
			}
			check()
		}
	}
}

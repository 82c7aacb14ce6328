package tests

import (
	"math"
	"math/rand"
	"slices"
	"testing"

	"loop.example/g01918/impl"
)

func sameExplanation(a, b impl.Explanation) bool {
	return slices.Equal(a.Row, b.Row) && sameJustification(a.Reason, b.Reason)
}

func isZeroExplanation(e impl.Explanation) bool {
	return sameExplanation(e, impl.Explanation{})
}

// plainExplanation decides whether the row is an answer, with the same parts of the program as plainDecision.
func plainExplanation(q question, row []int) (impl.Explanation, bool) {
	bound, ok := plainAnswer(q.query, row)
	if !ok {
		return impl.Explanation{}, false
	}
	reason, ok := plainCertainty(question{q.db, bound})
	return impl.Explanation{Row: row, Reason: reason}, ok
}

// plainlyExplained tells whether the explanation of a suitable query is valid.
func plainlyExplained(q question, e impl.Explanation) bool {
	bound, ok := plainAnswer(q.query, e.Row)
	return ok && plainlyJustified(question{q.db, bound}, e.Reason)
}

// cyclicQuestions have free variables and attack graphs that stay cyclic when these are bound.
func cyclicQuestions(seed int64, count int) []question {
	random := rand.New(rand.NewSource(seed))
	relations := schema("r1/2 s1/2 t1/2")
	var all []question
	for len(all) < count {
		for _, text := range []string{"w?rx|y sy|x tz|w", "z?rx|y sy|x tx|z", "z?rx|y sy|x ty|z", "w?rx|y sz|y tz|w", "w?rx|y sz|y tw|w", "zw?rx|y sy|x tz|w"} {
			all = append(all, question{randomFacts(random, relations), query(relations, text)})
		}
	}
	return all
}

// explainedQuestions are small questions with all choices of free variables, the cyclic and the named ones.
func explainedQuestions() []question {
	var all []question
	for i, q := range openQuestions(9) {
		if i%4 == 0 {
			all = append(all, q)
		}
	}
	return slices.Concat(all, cyclicQuestions(32, 200), namedQuestions())
}

func TestExplainAll(t *testing.T) {
	counts := map[[2]any]int{}
	for _, q := range explainedQuestions() {
		q = q.roomy()
		certain, uncertain := plainAnswers(q)
		possible := slices.SortedFunc(slices.Values(slices.Concat(certain, uncertain)), slices.Compare[[]int])
		check := watch(t, q.db, q.query)
		got, ok := impl.ExplainAll(q.db, q.query)
		again, _ := impl.ExplainAll(q.db, q.query)
		check(got, again)
		if !ok || len(got) != len(possible) || !slices.EqualFunc(again, got, sameExplanation) {
			t.Errorf("%v: %v, %v, want the rows %v", q, got, ok, possible)
			continue
		}
		for i, e := range got {
			want, _ := plainExplanation(q, possible[i])
			if !sameExplanation(e, want) || !impl.IsValidExplanation(q.db, q.query, e) || !plainlyExplained(q, e) {
				t.Errorf("%v: %v, want %v", q, e, want)
			}
			if e.Reason.Certain != hasRow(certain, e.Row) {
				t.Errorf("%v: the row %v is certain: %v", q, e.Row, e.Reason.Certain)
			}
			if !e.Reason.Certain && hasRow(answersIn(q, e.Reason.Repair), e.Row) {
				t.Errorf("%v: the row %v holds in %v", q, e.Row, e.Reason.Repair)
			}
			counts[[2]any{e.Reason.Method, e.Reason.Certain}]++
		}
		checkRows := watch(t, got)
		rows := impl.CertainRowsOf(got)
		checkRows(rows)
		if !equalLists(rows, certain) {
			t.Errorf("%v: the certain rows are %v, want %v", q, rows, certain)
		}
	}
	for method := 1; method <= 3; method++ {
		if counts[[2]any{method, true}] < 5 || counts[[2]any{method, false}] < 20 {
			t.Error(counts)
		}
	}
}

// otherRows returns rows of which most are no answers, and some have a wrong length or values out of range.
func otherRows(columns int) [][]int {
	var rows [][]int
	for _, value := range []int{math.MinInt, -1, 0, 1, 9, 10, math.MaxInt} {
		rows = append(rows, slices.Repeat([]int{value}, columns+1))
		if columns > 0 {
			rows = append(rows, slices.Repeat([]int{value}, columns), slices.Repeat([]int{value}, columns-1))
			mixed := slices.Repeat([]int{1}, columns)
			mixed[0] = value
			rows = append(rows, mixed)
		}
	}
	return append(rows, nil, []int{})
}

func TestExplainRow(t *testing.T) {
	counts := map[[2]bool]int{}
	for i, q := range explainedQuestions() {
		if i%3 > 0 {
			continue
		}
		q = q.roomy()
		certain, uncertain := plainAnswers(q)
		for _, row := range slices.Concat(certain, uncertain, otherRows(len(q.query.Free))) {
			row = roomy(row)
			want, wantOK := plainExplanation(q, row)
			check := watch(t, q.db, q.query, row)
			got, ok := impl.ExplainRow(q.db, q.query, row)
			again, _ := impl.ExplainRow(q.db, q.query, row)
			check(got, again)
			if ok != wantOK || !sameExplanation(got, want) || !sameExplanation(again, want) {
				t.Errorf("%v: the row %v: %v, %v, want %v, %v", q, row, got, ok, want, wantOK)
			}
			isPossible := hasRow(certain, row) || hasRow(uncertain, row)
			if ok && got.Reason.Certain != hasRow(certain, row) || isPossible && !ok {
				t.Errorf("%v: the row %v: %v, %v", q, row, got, ok)
			}
			if ok != impl.IsValidExplanation(q.db, q.query, got) {
				t.Errorf("%v: the explanation %v of %v is valid: %v", q, got, row, !ok)
			}
			counts[[2]bool{ok, isPossible}]++
		}
	}
	if counts[[2]bool{true, true}] < 200 || counts[[2]bool{true, false}] < 200 || counts[[2]bool{false, false}] < 200 {
		t.Error(counts)
	}
}

func TestExplanationsOfSomethingElse(t *testing.T) {
	counts := map[bool]int{}
	for number, q := range append(openQuestions(6), cyclicQuestions(33, 60)...) {
		if number%3 > 0 || len(q.db.Facts) > 10 {
			continue
		}
		all, _ := impl.ExplainAll(q.db, q.query)
		for i, e := range all {
			others := []impl.Justification{{Method: 1, Repair: []int{0}}, all[(i+1)%len(all)].Reason}
			var changes []impl.Explanation
			for k, reason := range justificationChanges(e.Reason, others) {
				if (number+k)%5 == 0 {
					changes = append(changes, impl.Explanation{Row: e.Row, Reason: reason})
				}
			}
			for _, row := range otherRows(len(e.Row)) {
				changes = append(changes, impl.Explanation{Row: row, Reason: e.Reason})
			}
			for _, other := range all {
				changes = append(changes, impl.Explanation{Row: other.Row, Reason: e.Reason})
			}
			for _, changed := range changes {
				changed := roomy(changed)
				want := plainlyExplained(q, changed)
				check := watch(t, q.db, q.query, changed)
				got := impl.IsValidExplanation(q.db, q.query, changed)
				check()
				if got != want {
					t.Errorf("%v: %v is valid: %v", q, changed, got)
				}
				if bound, _ := plainAnswer(q.query, changed.Row); got && changed.Reason.Certain != isPlainCertain(question{q.db, bound}) {
					t.Errorf("%v: %v is valid, but false", q, changed)
				}
				counts[got]++
			}
		}
	}
	if counts[true] < 500 || counts[false] < 500 {
		t.Error(counts)
	}
}

func TestExplanationExamples(t *testing.T) {
	for _, c := range []struct {
		db, query string
		want      []string
	}{
		{"r1/2 s1/2:r0|0 r0|1 r2|1 s0|5 s1|6", "x?rx|y sy|6", []string{"(0) no r0|0 r2|1 s0|5 s1|6", "(2) yes E Ax r2|x E A sx|6"}},
		{"r1/2 s1/2:r0|0 r0|1 r2|1 s0|5 s1|6", "xz?rx|y sy|z", []string{
			"(0,5) no r0|1 r2|1 s0|5 s1|6", "(0,6) no r0|0 r2|1 s0|5 s1|6", "(2,6) yes E Ax r2|x E A sx|6",
		}},
		{"r1/2 s1/2:r0|0 r0|1 s0|5", "?rx|y sy|z", []string{"() no r0|1 s0|5"}},
		{"r1/2 s1/2:r0|0 r0|1 s0|5 s1|5", "?rx|y sy|z", []string{"() yes Ex Ay rx|y E Az sy|z"}},
		{"r1/2 s1/2:r0|0 s0|0", "?rx|y sy|x", []string{"() yes {r0|0 s0|0} {r0|0}by1 {s0|0}by0 {}by0"}},
		{"r1/2 s1/2:r0|0 r1|1 s0|0 s1|1 s1|2", "x?rx|y sy|x", []string{"(0) yes E Ax r0|x E A sx|0", "(1) no r0|0 r1|1 s0|0 s1|2"}},
		{"r1/2 s1/2 t1/1:r0|0 r0|1 s3|0 s4|1 t7", "w?rx|y sz|y tw", []string{"(7) yes ()"}},
		{"r1/2 s1/2 t1/1:r0|0 r0|1 s3|0 s3|1 t7", "w?rx|y sz|y tw", []string{"(7) no r0|0 s3|1 t7"}},
	} {
		q := ask(c.db, c.query)
		all, ok := impl.ExplainAll(q.db, q.query)
		var got []string
		for _, e := range all {
			got = append(got, impl.FormatRows([][]int{e.Row})+" "+impl.FormatJustification(q.db, e.Reason))
		}
		if !ok || !slices.Equal(got, c.want) {
			t.Errorf("%v: %q, %v, want %q", q, got, ok, c.want)
		}
	}
}

func TestNoPossibleRows(t *testing.T) {
	for _, c := range []struct{ db, query string }{
		{"r1/2 s1/2:", "x?rx|y sy|z"}, {"r1/2 s1/2:", "?rx|y"}, {"r1/2 s1/2:r0|0 s1|1", "x?rx|y sy|z"}, {"r1/2 s1/2:r0|0 s1|1", "?rx|y sy|z"},
		{"r1/2 s1/2:r0|0 r0|1 s0|0", "x?rx|7"}, {"r1/2 s1/2:r0|0 r0|1 s0|0", "xy?rx|y sy|9"}, {"r1/2 s1/2:s0|0", "y?rx|y"},
	} {
		q := ask(c.db, c.query)
		all, ok := impl.ExplainAll(q.db, q.query)
		if !ok || len(all) != 0 || len(impl.CertainRowsOf(all)) != 0 {
			t.Errorf("%v: %v, %v", q, all, ok)
		}
		row := slices.Repeat([]int{0}, len(q.query.Free))
		e, ok := impl.ExplainRow(q.db, q.query, row)
		if !ok || e.Reason.Certain || !slices.Equal(e.Row, row) || !impl.IsValidExplanation(q.db, q.query, e) {
			t.Errorf("%v: the row %v, which is not possible: %v, %v", q, row, e, ok)
		}
		e.Reason.Certain = true
		if impl.IsValidExplanation(q.db, q.query, e) {
			t.Errorf("%v: the row %v is said to be certain", q, row)
		}
	}
	if got := impl.CertainRowsOf(nil); len(got) != 0 {
		t.Error(got)
	}
}

func TestCertainRowsOfAnyExplanations(t *testing.T) {
	rows := [][]int{nil, {1}, {}, {math.MinInt, math.MaxInt}, {1}, {-1, 10}, {0, 0, 0, 0, 0}}
	for _, chosen := range subsets(len(rows)) {
		var explanations []impl.Explanation
		var want [][]int
		for i, row := range rows {
			isCertain := slices.Contains(chosen, i)
			explanations = append(explanations, impl.Explanation{Row: row, Reason: impl.Justification{Method: i - 1, Certain: isCertain, Repair: []int{i}}})
			if isCertain {
				want = append(want, row)
			}
		}
		explanations = roomy(explanations)
		check := watch(t, explanations)
		got, again := impl.CertainRowsOf(explanations), impl.CertainRowsOf(explanations)
		check(got, again)
		if !equalLists(got, want) || !equalLists(again, want) {
			t.Errorf("%v: %v, want %v", explanations, got, want)
		}
	}
}

func TestExplanationsOfUnsuitableQuestions(t *testing.T) {
	for _, q := range unsuitableQuestions() {
		q = q.roomy()
		for _, row := range [][]int{nil, {0}, {0, 1}, slices.Repeat([]int{0}, len(q.query.Free))} {
			check := watch(t, q.db, q.query, row)
			all, isAll := impl.ExplainAll(q.db, q.query)
			e, ok := impl.ExplainRow(q.db, q.query, row)
			check(all, e)
			if isAll || len(all) != 0 || ok || !isZeroExplanation(e) {
				t.Errorf("%v, %v: %v, %v, the row %v: %v, %v", q.db, q.query, all, isAll, row, e, ok)
			}
			for _, reason := range []impl.Justification{
				{}, {Method: 1}, {Method: 1, Certain: true}, {Method: 1, Repair: []int{0}}, {Method: 2, Certain: true, Derivation: []impl.DerivationStep{{Block: -1}}},
				{Method: 3, Certain: true, Proof: [][]int{{}}},
			} {
				if impl.IsValidExplanation(q.db, q.query, impl.Explanation{Row: row, Reason: reason}) {
					t.Errorf("%v, %v: the row %v is explained by %v", q.db, q.query, row, reason)
				}
			}
		}
	}
}

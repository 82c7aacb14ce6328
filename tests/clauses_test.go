package tests

import (
	"math"
	"math/rand"
	"slices"
	"strconv"
	"strings"
	"testing"

	"loop.example/g01918/impl"
)

// isPlainClause looks for each literal among those of the n facts, without the program.
func isPlainClause(n int, clause []int) bool {
	facts := map[int]bool{}
	for _, literal := range clause {
		isFound := false
		for fact := 1; fact <= n; fact++ {
			if (literal == fact || literal == -fact) && !facts[fact] {
				facts[fact], isFound = true, true
				break
			}
		}
		if !isFound {
			return false
		}
	}
	return true
}

func arePlainClauses(n int, clauses [][]int) bool {
	isNone := func(clause []int) bool { return !isPlainClause(n, clause) }
	return n >= 0 && n <= 14 && len(clauses) <= 400 && !slices.ContainsFunc(clauses, isNone)
}

func plainClauseText(clause []int) string {
	var literals []string
	for _, literal := range clause {
		literals = append(literals, strconv.Itoa(literal))
	}
	return "(" + strings.Join(literals, " ") + ")"
}

// plainlySatisfies tells whether the model has a true literal of each clause, without the program.
func plainlySatisfies(clauses [][]int, model []bool) bool {
	truths := map[int]bool{}
	for i, isTrue := range model {
		truths[i+1], truths[-i-1] = isTrue, !isTrue
	}
	for _, clause := range clauses {
		if !slices.ContainsFunc(clause, func(literal int) bool { return truths[literal] }) {
			return false
		}
	}
	return true
}

// models returns all lists of n truth values.
func models(n int) [][]bool {
	var all [][]bool
	for bits := range 1 << n {
		model := make([]bool, n)
		for i := range model {
			model[i] = bits>>i&1 == 1
		}
		all = append(all, model)
	}
	return all
}

// randomClauses returns valid clauses for n facts.
func randomClauses(random *rand.Rand, n int, count int) [][]int {
	var clauses [][]int
	for range count {
		var clause []int
		for _, fact := range random.Perm(n)[:random.Intn(min(n, 3)+1)] {
			clause = append(clause, (fact+1)*(1-2*random.Intn(2)))
		}
		clauses = append(clauses, clause)
	}
	return clauses
}

func TestFalsityClauses(t *testing.T) {
	for _, q := range questions() {
		q = q.roomy()
		var want [][]int
		for _, block := range blocksByKey(q.db) {
			var clause []int
			for _, i := range block {
				clause = append(clause, i+1)
			}
			want = append(want, clause)
		}
		for _, witness := range plainWitnesses(q) {
			var clause []int
			for _, i := range witness {
				clause = append(clause, -i-1)
			}
			want = append(want, clause)
		}
		check := watch(t, q.db, q.query)
		got, again := impl.FalsityClauses(q.db, q.query), impl.FalsityClauses(q.db, q.query)
		check(got, again)
		if !equalLists(got, want) || !equalLists(again, want) || !impl.AreValidClauses(len(q.db.Facts), got) {
			t.Errorf("%v: %v, want %v", q, got, want)
		}
		for i := range got {
			_ = append(got[i], 77)
			for k := range got[i] {
				got[i][k] = 77
			}
			if !equalLists(got[i+1:], want[i+1:]) {
				t.Fatalf("%v: a change of clause %d changes a later one", q, i)
			}
		}
	}
}

func TestModelsOfFalsityClauses(t *testing.T) {
	isModel := map[bool]int{}
	for _, q := range questionsUpTo(9) {
		clauses := impl.FalsityClauses(q.db, q.query)
		repairs, holds := satisfying(q)
		var falsifying [][]int
		for i, repair := range repairs {
			if !holds[i] {
				falsifying = append(falsifying, repair)
			}
			model := make([]bool, len(q.db.Facts))
			for _, f := range repair {
				model[f] = true
			}
			if impl.SatisfiesClauses(clauses, model) == holds[i] {
				t.Errorf("%v: the repair %v is a model: %v", q, repair, holds[i])
			}
		}
		for _, model := range models(len(q.db.Facts)) {
			got := impl.SatisfiesClauses(clauses, model)
			if got && !containsSubset(falsifying, impl.TrueVariables(model)) {
				t.Errorf("%v: the model %v contains no falsifying repair", q, model)
			}
			isModel[got]++
		}
	}
	if isModel[true] < 1000 || isModel[false] < 1000 {
		t.Error(isModel)
	}
}

func TestFalsityClausesOfUnsuitableQuestions(t *testing.T) {
	for _, q := range unsuitableQuestions() {
		if got := impl.FalsityClauses(q.db, q.query); len(got) != 0 {
			t.Errorf("FalsityClauses(%v, %v) = %v", q.db, q.query, got)
		}
	}
}

// clauseLists are valid for some numbers of facts and invalid for others.
func clauseLists() [][][]int {
	lists := [][][]int{
		nil, {nil}, {{}, {}}, {{1}}, {{-1}}, {{1, -1}}, {{1, 1}}, {{-1, -1}}, {{-2, 1, 2}}, {{1}, {2}}, {{1, 2}, {0}}, {{3, -2, 1}}, {{2, 1}, nil, {-1, -2}},
		{{1, 2, 3, 4, 5, 6, 7, 8, 9, 10, 11, 12, 13, 14}}, {{14, -13, 12, -11, 10, -9, 8, -7, 6, -5, 4, -3, 2, -1}}, {{15}}, {{-15}}, {{14}, {-14}},
		slices.Repeat([][]int{{1}}, 400), slices.Repeat([][]int{{1}}, 401), slices.Repeat([][]int{{}}, 400), slices.Repeat([][]int{{}}, 401),
	}
	for _, literal := range hostileInts {
		lists = append(lists, [][]int{{literal}}, [][]int{{1}, {-literal}}, [][]int{{1, literal}})
	}
	return lists
}

func TestAreValidAndFormatClauses(t *testing.T) {
	if impl.MaxClauses != 400 {
		t.Error(impl.MaxClauses)
	}
	random := rand.New(rand.NewSource(20))
	lists := clauseLists()
	for n := range 6 {
		for range 20 {
			lists = append(lists, randomClauses(random, n, random.Intn(6)))
		}
	}
	counts := map[bool]int{}
	for _, clauses := range lists {
		clauses = roomy(clauses)
		for _, n := range hostileInts {
			want, wantText := arePlainClauses(n, clauses), ""
			if want {
				wantText = strconv.Itoa(n) + ":"
				for _, clause := range clauses {
					wantText += plainClauseText(clause)
				}
			}
			check := watch(t, clauses)
			got, text := impl.AreValidClauses(n, clauses), impl.FormatClauses(n, clauses)
			check()
			if got != want || text != wantText {
				t.Errorf("%d, %v: %v, %q, want %v, %q", n, clauses, got, text, want, wantText)
			}
			counts[got]++
		}
	}
	if counts[true] < 100 || counts[false] < 100 {
		t.Error(counts)
	}
}

func TestEmptyClause(t *testing.T) {
	empty := [][]int{{}}
	for _, model := range append(models(0), models(3)...) {
		if impl.SatisfiesClauses(empty, model) || impl.SatisfiesClauses([][]int{{1, -1}, nil}, model) || !impl.SatisfiesClauses(nil, model) {
			t.Errorf("the empty clause and the model %v", model)
		}
	}
	if impl.FormatClause(nil) != "()" || impl.FormatClauses(0, empty) != "0:()" || impl.FormatClauses(0, nil) != "0:" || impl.FormatClauses(2, [][]int{{}, {-2}, nil}) != "2:()(-2)()" {
		t.Error("the format of the empty clause")
	}
	if !impl.AreValidClauses(0, empty) || !impl.AreValidClauses(14, empty) || impl.AreValidClauses(-1, empty) || impl.AreValidClauses(15, empty) {
		t.Error("the empty clause is valid for all numbers of facts")
	}
	if got := impl.FalsityClauses(database("r1/2:"), query(schema("r1/2"), "?rx|y")); len(got) != 0 {
		t.Errorf("without facts: %v", got)
	}
	if literals, isConflict := impl.UnitPropagation(1, empty, []int{1}); !isConflict || !slices.Equal(literals, []int{1}) {
		t.Errorf("the empty clause is no conflict: %v", literals)
	}
}

func TestSatisfiesClauses(t *testing.T) {
	random := rand.New(rand.NewSource(21))
	lists := clauseLists()
	for range 300 {
		lists = append(lists, randomClauses(random, random.Intn(5), random.Intn(5)))
	}
	counts := map[bool]int{}
	for _, clauses := range lists {
		clauses = roomy(clauses)
		for _, model := range slices.Concat(models(0), models(1), models(3), models(4)) {
			model = roomy(model)
			check := watch(t, clauses, model)
			got := impl.SatisfiesClauses(clauses, model)
			check()
			if got != plainlySatisfies(clauses, model) {
				t.Errorf("%v with %v: %v", clauses, model, got)
			}
			counts[got]++
		}
	}
	if counts[true] < 1000 || counts[false] < 1000 {
		t.Error(counts)
	}
}

func TestLiteralWithoutAnElement(t *testing.T) {
	for _, literal := range []int{0, 3, -3, 15, -15, math.MaxInt, math.MinInt, math.MinInt + 1} {
		for _, model := range models(2) {
			if impl.SatisfiesClauses([][]int{{literal}}, model) {
				t.Errorf("%d is true in %v", literal, model)
			}
			if got := impl.SatisfiesClauses([][]int{{literal, -1, 1}}, model); !got {
				t.Errorf("%d hides the other literals in %v", literal, model)
			}
		}
	}
}

func TestFormatClause(t *testing.T) {
	for _, c := range []struct {
		clause []int
		want   string
	}{
		{nil, "()"}, {[]int{1}, "(1)"}, {[]int{-1, 2}, "(-1 2)"}, {[]int{2, 2, -2, 0}, "(2 2 -2 0)"}, {[]int{10, -14, 3}, "(10 -14 3)"},
		{[]int{math.MinInt, math.MaxInt}, "(-9223372036854775808 9223372036854775807)"},
	} {
		clause := roomy(c.clause)
		check := watch(t, clause)
		if got := impl.FormatClause(clause); got != c.want {
			t.Errorf("FormatClause(%v) = %s", c.clause, got)
		}
		check()
	}
}

func TestTrueVariables(t *testing.T) {
	long := make([]bool, 1000)
	long[0], long[63], long[64], long[999] = true, true, true, true
	for _, model := range append(slices.Concat(models(0), models(1), models(5)), long, nil) {
		model = roomy(model)
		var want []int
		for i, isTrue := range model {
			if isTrue {
				want = append(want, i)
			}
		}
		check := watch(t, model)
		got, again := impl.TrueVariables(model), impl.TrueVariables(model)
		check(got, again)
		if !slices.Equal(got, want) || !slices.Equal(again, want) {
			t.Errorf("TrueVariables(%v) = %v, want %v", model, got, want)
		}
	}
}

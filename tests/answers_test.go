package tests

import (
	"math"
	"math/rand"
	"slices"
	"strconv"
	"strings"
	"testing"

	"loop.example/g01918/impl"
)

// answersIn returns the rows that the embeddings within these facts give, each once and in order, without the program.
func answersIn(q question, facts []int) [][]int {
	var rows [][]int
	for _, e := range plainEmbeddings(q) {
		if !isSubset(e.Facts, facts) {
			continue
		}
		row := []int{}
		for _, v := range q.query.Free {
			row = append(row, e.Values[v])
		}
		if !hasRow(rows, row) {
			rows = append(rows, row)
		}
	}
	slices.SortFunc(rows, slices.Compare[[]int])
	return rows
}

func hasRow(rows [][]int, row []int) bool {
	return slices.ContainsFunc(rows, func(other []int) bool { return slices.Equal(other, row) })
}

// plainAnswers returns the certain and the other possible rows, without the program.
func plainAnswers(q question) (certain, uncertain [][]int) {
	var all []int
	for i := range q.db.Facts {
		all = append(all, i)
	}
	var inRepairs [][][]int
	for _, repair := range repairsInOrder(q.db) {
		inRepairs = append(inRepairs, answersIn(q, repair))
	}
	for _, row := range answersIn(q, all) {
		if slices.ContainsFunc(inRepairs, func(rows [][]int) bool { return !hasRow(rows, row) }) {
			uncertain = append(uncertain, row)
		} else {
			certain = append(certain, row)
		}
	}
	return certain, uncertain
}

// openQuestions returns questions with all choices of free variables.
func openQuestions(facts int) []question {
	var open []question
	for _, q := range questionsUpTo(facts) {
		for _, free := range subsets(q.query.VariableCount) {
			q.query.Free = free
			open = append(open, q)
		}
	}
	return open
}

func TestAnswers(t *testing.T) {
	certainCount, uncertainCount := 0, 0
	for _, q := range append(questions(), openQuestions(8)...) {
		q = q.roomy()
		certain, uncertain := plainAnswers(q)
		possible := slices.SortedFunc(slices.Values(slices.Concat(certain, uncertain)), slices.Compare[[]int])
		for _, c := range []struct {
			name string
			find func(impl.Database, impl.Query) [][]int
			want [][]int
		}{
			{"CertainAnswers", impl.CertainAnswers, certain}, {"UncertainAnswers", impl.UncertainAnswers, uncertain}, {"PossibleAnswers", impl.PossibleAnswers, possible},
		} {
			check := watch(t, q.db, q.query)
			got, again := c.find(q.db, q.query), c.find(q.db, q.query)
			check(got, again)
			if !equalLists(got, c.want) || !equalLists(again, c.want) {
				t.Errorf("%v: %s is %v, want %v", q, c.name, got, c.want)
			}
		}
		if len(q.query.Free) > 0 {
			certainCount, uncertainCount = certainCount+len(certain), uncertainCount+len(uncertain)
		}
	}
	if certainCount < 500 || uncertainCount < 500 {
		t.Errorf("only %d certain and %d uncertain rows", certainCount, uncertainCount)
	}
}

func TestUncertainRowsHaveAFalsifyingRepair(t *testing.T) {
	for _, q := range append(questions(), openQuestions(8)...) {
		certain, uncertain := impl.CertainAnswers(q.db, q.query), impl.UncertainAnswers(q.db, q.query)
		for _, row := range slices.Concat(certain, uncertain) {
			bound, ok := impl.BindAnswer(q.query, row)
			repair, isFalsified := impl.FalsifyingRepair(q.db, bound)
			if !ok || isFalsified != hasRow(uncertain, row) || isFalsified == hasRow(certain, row) {
				t.Errorf("%v: the row %v is falsified: %v, %v", q, row, isFalsified, ok)
			}
			if isFalsified && hasRow(answersIn(q, repair), row) {
				t.Errorf("%v: the row %v holds in %v", q, row, repair)
			}
		}
	}
}

func TestQueryWithoutFreeVariables(t *testing.T) {
	for _, q := range questions() {
		q.query.Free = nil
		for _, c := range []struct {
			find func(impl.Database, impl.Query) [][]int
			want bool
		}{
			{impl.CertainAnswers, isPlainCertain(q)}, {impl.PossibleAnswers, len(plainWitnesses(q)) > 0},
			{impl.UncertainAnswers, !isPlainCertain(q) && len(plainWitnesses(q)) > 0},
		} {
			got := c.find(q.db, q.query)
			if c.want && (len(got) != 1 || len(got[0]) != 0 || impl.FormatRows(got) != "()") || !c.want && len(got) != 0 {
				t.Errorf("%v: %v, want a row: %v", q, got, c.want)
			}
		}
		if bound, ok := impl.BindAnswer(q.query, nil); !ok || !sameQuery(bound, q.query) {
			t.Errorf("%v: bound to %v, %v", q, bound, ok)
		}
	}
}

func TestAnswersExamples(t *testing.T) {
	const db = "r1/2 s1/2:r0|0 r0|1 r2|1 s0|5 s1|6"
	for _, c := range []struct{ query, certain, uncertain string }{
		{"xz?rx|y sy|z", "(2,6)", "(0,5) (0,6)"}, {"x?rx|y sy|z", "(0) (2)", ""}, {"z?rx|y sy|z", "(6)", "(5)"}, {"y?rx|y", "(1)", "(0)"},
		{"xy?rx|y", "(2,1)", "(0,0) (0,1)"}, {"?rx|y", "()", ""}, {"?rx|0", "", "()"}, {"?rx|9", "", ""}, {"x?rx|9", "", ""}, {"x?r2|x", "(1)", ""},
		{"xyz?rx|y sy|z", "(2,1,6)", "(0,0,5) (0,1,6)"}, {"xw?rx|y sz|w", "(0,5) (0,6) (2,5) (2,6)", ""}, {"x?rx|y sx|z", "(0)", ""}, {"x?rx|x", "", "(0)"},
	} {
		q := ask(db, c.query)
		certain, uncertain := impl.CertainAnswers(q.db, q.query), impl.UncertainAnswers(q.db, q.query)
		if impl.FormatRows(certain) != c.certain || impl.FormatRows(uncertain) != c.uncertain {
			t.Errorf("%s: %v and %v", c.query, certain, uncertain)
		}
	}
}

func TestAnswersOfUnsuitableQuestions(t *testing.T) {
	for _, q := range unsuitableQuestions() {
		q = q.roomy()
		check := watch(t, q.db, q.query)
		certain, possible, uncertain := impl.CertainAnswers(q.db, q.query), impl.PossibleAnswers(q.db, q.query), impl.UncertainAnswers(q.db, q.query)
		check()
		if len(certain) != 0 || len(possible) != 0 || len(uncertain) != 0 {
			t.Errorf("%v, %v: %v, %v, %v", q.db, q.query, certain, possible, uncertain)
		}
	}
}

// plainAnswer binds the free variables of a valid query without the program.
func plainAnswer(q impl.Query, row []int) (impl.Query, bool) {
	if len(row) != len(q.Free) || slices.ContainsFunc(row, func(value int) bool { return value < 0 || value > 9 }) {
		return q, false
	}
	bound := q
	for i := len(row) - 1; i >= 0; i-- {
		bound = plainBinding(bound, q.Free[i], row[i])
	}
	return bound, true
}

func TestBindAnswer(t *testing.T) {
	random := rand.New(rand.NewSource(25))
	counts := map[bool]int{}
	for _, q := range append(questions(), openQuestions(3)...) {
		q = q.roomy()
		for range 8 {
			var row []int
			for range max(0, len(q.query.Free)+random.Intn(9)/8-random.Intn(9)/8) {
				row = append(row, []int{0, 1, 2, 5, 9, random.Intn(10), hostileInts[random.Intn(len(hostileInts))]}[random.Intn(7)])
			}
			row = roomy(row)
			want, wantOK := plainAnswer(q.query, row)
			check := watch(t, q.query, row)
			got, ok := impl.BindAnswer(q.query, row)
			again, _ := impl.BindAnswer(q.query, row)
			check(got, again)
			if ok != wantOK || !sameQuery(got, want) || !sameQuery(again, want) {
				t.Errorf("%v: BindAnswer %v is %v, %v, want %v, %v", q, row, got, ok, want, wantOK)
			}
			if ok && (len(got.Free) != 0 || !impl.IsQueryFor(q.db, got)) {
				t.Errorf("%v: BindAnswer %v is %v", q, row, got)
			}
			counts[ok && len(row) > 0]++
		}
	}
	if counts[true] < 500 || counts[false] < 500 {
		t.Error(counts)
	}
}

func TestBindAnswerExamples(t *testing.T) {
	relations := schema("r1/2 s1/2")
	for _, c := range []struct {
		query string
		row   []int
		want  string
	}{
		{"xz?rx|y sy|z", []int{2, 6}, "?r2|x sx|6"}, {"z?rx|y sy|z", []int{0}, "?rx|y sy|0"}, {"x?rx|y sy|x", []int{9}, "?r9|x sx|9"},
		{"xyzw?rx|y sz|w", []int{1, 2, 3, 4}, "?r1|2 s3|4"}, {"yw?rx|y sz|w", []int{2, 4}, "?rx|2 sy|4"}, {"xz?rx|y sy|z", []int{0, 0}, "?r0|x sx|0"},
	} {
		bound, ok := impl.BindAnswer(query(relations, c.query), c.row)
		if got := impl.FormatQuery(relations, bound); !ok || got != c.want {
			t.Errorf("%s with %v: %s, %v", c.query, c.row, got, ok)
		}
	}
	q := query(relations, "xz?rx|y sy|z")
	for _, row := range [][]int{nil, {2}, {2, 6, 6}, {-1, 6}, {2, -1}, {10, 6}, {2, 10}, {math.MinInt, 6}, {2, math.MaxInt}} {
		if bound, ok := impl.BindAnswer(q, row); ok || !sameQuery(bound, q) {
			t.Errorf("the row %v: %v, %v", row, bound, ok)
		}
	}
}

// TestBindAnswerOfAnyQuery only asks for an end, for unchanged arguments and for an unchanged query where it fails.
func TestBindAnswerOfAnyQuery(t *testing.T) {
	queries := append(changedQueries(), impl.Query{}, impl.Query{VariableCount: math.MaxInt, Free: []int{math.MaxInt - 1, 5, 5, math.MinInt}})
	for _, q := range queries {
		q = roomy(q)
		for length := range 5 {
			for _, value := range []int{-1, 0, 9, 10} {
				row := roomy(slices.Repeat([]int{value}, length))
				check := watch(t, q, row)
				got, ok := impl.BindAnswer(q, row)
				check(got)
				if ok && (length != len(q.Free) || length > 0 && (value < 0 || value > 9)) || !ok && !sameQuery(got, q) {
					t.Errorf("BindAnswer(%v, %v) = %v, %v", q, row, got, ok)
				}
			}
		}
	}
}

func TestFormatRows(t *testing.T) {
	random := rand.New(rand.NewSource(26))
	lists := [][][]int{nil, {}, {nil}, {{}, {}}, {{1}}, {{1, 2}, {}, {3}}, {{math.MinInt, math.MaxInt}, {-1, 0}}}
	for range 300 {
		lists = append(lists, randomSets(random))
	}
	for _, rows := range lists {
		rows = roomy(rows)
		var parts []string
		for _, row := range rows {
			var values []string
			for _, value := range row {
				values = append(values, strconv.Itoa(value))
			}
			parts = append(parts, "("+strings.Join(values, ",")+")")
		}
		check := watch(t, rows)
		if got, want := impl.FormatRows(rows), strings.Join(parts, " "); got != want {
			t.Errorf("FormatRows(%v) = %q, want %q", rows, got, want)
		}
		check()
	}
}

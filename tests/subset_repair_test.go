package tests

import (
	"math"
	"math/rand"
	"slices"
	"strings"
	"testing"

	"loop.example/g01918/impl"
)

// constrained is a question with denial constraints.
type constrained struct {
	question
	constraints []impl.DenialConstraint
}

func (c constrained) String() string {
	var texts []string
	for _, d := range c.constraints {
		if isPlainConstraint(c.db, d) {
			texts = append(texts, constraintText(c.db, d))
		} else {
			texts = append(texts, "an invalid one")
		}
	}
	return c.question.String() + " with " + strings.Join(texts, ", ")
}

func (c constrained) roomy() constrained {
	return constrained{c.question.roomy(), roomy(c.constraints)}
}

// subsetRepairs tries all sets of facts, without the program.
func (c constrained) subsetRepairs() [][]int {
	return plainConflicts(c.db, c.constraints).maximalSets()
}

// verdict is what a list of repairs says about a query.
type verdict struct {
	falsifying []int
	certain    bool
	possible   bool
	satisfied  int
}

// verdictOf judges a suitable query without the program.
func verdictOf(q question, repairs [][]int) verdict {
	witnesses := plainWitnesses(q)
	v := verdict{certain: len(repairs) > 0}
	for _, repair := range repairs {
		if containsSubset(witnesses, repair) {
			v.possible = true
			v.satisfied++
		} else if v.certain {
			v.falsifying, v.certain = repair, false
		}
	}
	return v
}

// namedConstrained are the edge cases: constraints that overlap, that are equal, that forbid a fact beside all others, that
// are not valid, and none at all.
func namedConstrained() []constrained {
	less := constraint(0, 1, 0, 0, 1, 1, impl.CompareLess)
	equal := constraint(0, 1, 1, 0, 0, 1, impl.CompareEqual)
	sameValue := constraint(0, 0, 1, 1, 1, 1, impl.CompareEqual)
	ascending := constraint(0, 0, 1, 1, 0, 0, impl.CompareLess)
	invalid := constraint(0, 2, 0, 0, 0, 0, impl.CompareLess)
	const db = "r1/2 s1/2:r0|3 r1|5 s0|4 s3|0"
	const star = "r1/2 s1/2:r0|1 s1|0 s2|0 s3|0"
	center := constraint(0, 1, 0, 1, 0, 1, impl.CompareEqual)
	return []constrained{
		{ask(db, "?r0|x"), []impl.DenialConstraint{less}}, {ask(db, "?s3|x"), []impl.DenialConstraint{equal}}, {ask(db, "?rx|y sx|z"), []impl.DenialConstraint{less, equal}},
		{ask(db, "?rx|y sz|x"), []impl.DenialConstraint{less, equal, less}}, {ask(db, "?r0|x"), []impl.DenialConstraint{invalid}}, {ask(db, "?r0|x"), nil},
		{ask(star, "?sx|y"), []impl.DenialConstraint{center}}, {ask(star, "?rx|y"), []impl.DenialConstraint{center, center}},
		{ask("r1/2:r0|5 r1|5 r2|5 r3|6", "?r1|x"), []impl.DenialConstraint{sameValue}}, {ask("r1/2:r0|5 r1|5 r2|5 r3|6", "?rx|5"), []impl.DenialConstraint{sameValue, ascending}},
		{ask("r1/2:r0|0 r0|1 r1|0 r1|1", "?rx|0"), []impl.DenialConstraint{sameValue}}, {ask("r1/2:r0|0 r0|1 r1|0 r1|1", "?rx|0"), []impl.DenialConstraint{ascending, sameValue}},
		{ask("r1/2 s1/2:", "?rx|y"), []impl.DenialConstraint{less}}, {ask("r1/2:r0|0", "?rx|y"), []impl.DenialConstraint{sameValue}},
	}
}

// constrainedQuestions returns the edge cases and questions with up to four constraints, of which some are not valid.
func constrainedQuestions(seed int64, count int) []constrained {
	random := rand.New(rand.NewSource(seed))
	all := namedConstrained()
	for i := range count {
		relations := schema([]string{"r1/2 s1/2", "r2/2 s1/2", "r1/2 s0/2 t2/2", "r2/2 s2/2"}[i%4])
		c := constrained{question{randomFacts(random, relations), randomQuery(random, relations)}, sampleConstraints(random.Int63(), random.Intn(5))}
		all = append(all, c)
	}
	return all
}

func TestSubsetRepairs(t *testing.T) {
	counts := map[int]int{}
	for _, c := range constrainedQuestions(34, 400) {
		c = c.roomy()
		want := c.subsetRepairs()
		check := watch(t, c.db, c.constraints)
		got, again := impl.SubsetRepairs(c.db, c.constraints), impl.SubsetRepairs(c.db, c.constraints)
		check(got, again)
		if !equalLists(got, want) || !equalLists(again, want) {
			t.Errorf("%v: %v, want %v", c, got, want)
		}
		for _, repair := range got {
			if selected, _ := impl.SelectFacts(c.db, repair); !impl.SatisfiesConstraints(selected, c.constraints) {
				t.Errorf("%v: %v violates a constraint", c, repair)
			}
		}
		counts[min(len(got), 5)]++
	}
	for count := 1; count <= 5; count++ {
		if counts[count] < 5 {
			t.Error(counts)
		}
	}
}

func TestKeysAsTheOnlyConflicts(t *testing.T) {
	invalid := []impl.DenialConstraint{{}, constraint(0, 9, 0, 0, 0, 0, 1), constraint(0, 0, 0, 0, 0, 0, 3), constraint(-1, 0, 0, 0, 0, 0, 2)}
	for _, db := range aggregateDatabases() {
		want := repairsInOrder(db)
		if got := impl.SubsetRepairs(db, nil); !equalLists(got, want) {
			t.Errorf("%s: %v, want %v", databaseText(db), got, want)
		}
		if got := impl.SubsetRepairs(db, invalid); !equalLists(got, want) {
			t.Errorf("%s with invalid constraints: %v, want %v", databaseText(db), got, want)
		}
	}
	for _, q := range questionsUpTo(10) {
		satisfyingCount, falsifyingCount := countsOf(q)
		satisfied, all := impl.SubsetCounts(q.db, nil, q.query)
		if satisfied != satisfyingCount || all != satisfyingCount+falsifyingCount {
			t.Errorf("%v: %d of %d, want %d and %d", q, satisfied, all, satisfyingCount, falsifyingCount)
		}
		repair, ok := impl.SubsetFalsifyingRepair(q.db, nil, q.query)
		if want, wantOK := impl.FalsifyingRepair(q.db, q.query); ok != wantOK || !slices.Equal(repair, want) {
			t.Errorf("%v: %v, %v, want %v", q, repair, ok, want)
		}
		if impl.SubsetCertain(q.db, nil, q.query) != isPlainCertain(q) || impl.SubsetPossible(q.db, nil, q.query) != (satisfyingCount > 0) {
			t.Errorf("%v: certain %v, possible %v", q, impl.SubsetCertain(q.db, nil, q.query), impl.SubsetPossible(q.db, nil, q.query))
		}
	}
}

func TestQueriesInSubsetRepairs(t *testing.T) {
	certain, possible := 0, 0
	for _, c := range constrainedQuestions(35, 600) {
		c = c.roomy()
		repairs := c.subsetRepairs()
		want := verdictOf(c.question, repairs)
		check := watch(t, c.db, c.constraints, c.query)
		falsifying, isFalsified := impl.SubsetFalsifyingRepair(c.db, c.constraints, c.query)
		again, _ := impl.SubsetFalsifyingRepair(c.db, c.constraints, c.query)
		isCertain, isPossible := impl.SubsetCertain(c.db, c.constraints, c.query), impl.SubsetPossible(c.db, c.constraints, c.query)
		satisfied, all := impl.SubsetCounts(c.db, c.constraints, c.query)
		check(falsifying, again)
		if isFalsified == want.certain || !slices.Equal(falsifying, want.falsifying) || !slices.Equal(again, want.falsifying) {
			t.Errorf("%v: falsified in %v, %v, want %v", c, falsifying, isFalsified, want.falsifying)
		}
		if isFalsified && (impl.HoldsIn(c.db, falsifying, c.query) || !hasRow(repairs, falsifying)) {
			t.Errorf("%v: %v does not falsify the query", c, falsifying)
		}
		if isCertain != want.certain || isPossible != want.possible {
			t.Errorf("%v: certain %v, possible %v", c, isCertain, isPossible)
		}
		if satisfied != want.satisfied || all != len(repairs) {
			t.Errorf("%v: in %d of %d, want %d of %d", c, satisfied, all, want.satisfied, len(repairs))
		}
		if isCertain {
			certain++
		} else if isPossible {
			possible++
		}
	}
	if certain < 50 || possible < 50 {
		t.Errorf("only %d certain and %d other possible questions", certain, possible)
	}
}

func TestOverlappingConstraints(t *testing.T) {
	// Both constraints forbid r0|0 beside s0|1; the second one also forbids r1|1 beside it.
	db := database("r1/2 s1/2:r0|0 r1|1 s0|1")
	first, second := constraint(0, 1, 0, 0, 1, 1, impl.CompareLess), constraint(0, 1, 0, 0, 0, 0, impl.CompareEqual)
	third := constraint(0, 1, 1, 1, 1, 1, impl.CompareEqual)
	for _, c := range []struct {
		constraints []impl.DenialConstraint
		want        [][]int
	}{
		{[]impl.DenialConstraint{first}, [][]int{{0, 1}, {1, 2}}}, {[]impl.DenialConstraint{second}, [][]int{{0, 1}, {1, 2}}},
		{[]impl.DenialConstraint{first, second}, [][]int{{0, 1}, {1, 2}}}, {[]impl.DenialConstraint{second, first, first}, [][]int{{0, 1}, {1, 2}}},
		{[]impl.DenialConstraint{third}, [][]int{{0, 1}, {0, 2}}}, {[]impl.DenialConstraint{first, third}, [][]int{{0, 1}, {2}}},
		{[]impl.DenialConstraint{third, second, first}, [][]int{{0, 1}, {2}}}, {nil, [][]int{{0, 1, 2}}},
	} {
		if got := impl.SubsetRepairs(db, c.constraints); !equalLists(got, c.want) {
			t.Errorf("%+v: %v, want %v", c.constraints, got, c.want)
		}
	}
	all := []impl.DenialConstraint{first, second, third}
	q := query(db.Relations, "?rx|y")
	if repair, ok := impl.SubsetFalsifyingRepair(db, all, q); !ok || !slices.Equal(repair, []int{2}) {
		t.Errorf("%v, %v", repair, ok)
	}
	if satisfied, count := impl.SubsetCounts(db, all, q); satisfied != 1 || count != 2 || impl.SubsetCertain(db, all, q) || !impl.SubsetPossible(db, all, q) {
		t.Errorf("in %d of %d", satisfied, count)
	}
	// A constraint that a key implies changes nothing.
	keyed := database("r1/2:r0|0 r0|1 r1|0")
	if got := impl.SubsetRepairs(keyed, []impl.DenialConstraint{constraint(0, 0, 0, 0, 1, 1, impl.CompareLess)}); !equalLists(got, [][]int{{0, 2}, {1, 2}}) {
		t.Error(got)
	}
}

func TestSubsetRepairsOfTheLargestDatabases(t *testing.T) {
	sameValue := []impl.DenialConstraint{constraint(0, 0, 1, 1, 1, 1, impl.CompareEqual)}
	db := database("r1/2:r0|0 r0|1 r0|2 r1|0 r1|1 r1|2 r2|0 r2|1 r2|2 r3|0 r3|1 r3|2 r4|0 r4|1")
	c := constrained{question{db, query(db.Relations, "?rx|x")}, sameValue}
	repairs := c.subsetRepairs()
	if got := impl.SubsetRepairs(db, sameValue); len(repairs) < 40 || !equalLists(got, repairs) {
		t.Errorf("%v, want %v", got, repairs)
	}
	if got := impl.SubsetRepairs(db, nil); len(got) != 162 {
		t.Errorf("%d repairs", len(got))
	}
	single := database("r2/2:r01 r02 r03 r04 r05 r06 r07 r08 r09 r10 r11 r12 r13 r14")
	if got := impl.SubsetRepairs(single, nil); len(got) != 1 || len(got[0]) != impl.MaxFacts {
		t.Errorf("%v", got)
	}
}

// hostileConstraints may be given with any database.
func hostileConstraints() [][]impl.DenialConstraint {
	return [][]impl.DenialConstraint{
		nil, {{}}, {constraint(0, 1, 0, 0, 1, 1, impl.CompareLess)},
		{constraint(math.MinInt, math.MaxInt, math.MinInt, math.MaxInt, -1, 64, math.MaxInt), constraint(0, 0, 0, 0, 0, 0, 1)},
	}
}

func TestSubsetRepairsOfUnsuitableQuestions(t *testing.T) {
	isCounted := false
	for _, q := range unsuitableQuestions() {
		for _, constraints := range hostileConstraints() {
			c := constrained{q, constraints}.roomy()
			var want [][]int
			if impl.IsValidDatabase(c.db) {
				want = c.subsetRepairs()
			}
			check := watch(t, c.db, c.constraints, c.query)
			repairs := impl.SubsetRepairs(c.db, c.constraints)
			falsifying, ok := impl.SubsetFalsifyingRepair(c.db, c.constraints, c.query)
			satisfied, all := impl.SubsetCounts(c.db, c.constraints, c.query)
			isCertain, isPossible := impl.SubsetCertain(c.db, c.constraints, c.query), impl.SubsetPossible(c.db, c.constraints, c.query)
			check(repairs, falsifying)
			if !equalLists(repairs, want) || satisfied != 0 || all != len(want) {
				t.Errorf("%v, %v: %v, %d of %d, want %v", c.db, c.query, repairs, satisfied, all, want)
			}
			if ok || len(falsifying) != 0 || isCertain || isPossible {
				t.Errorf("%v, %v: %v, %v, certain %v, possible %v", c.db, c.query, falsifying, ok, isCertain, isPossible)
			}
			isCounted = isCounted || all > 1
		}
	}
	if !isCounted {
		t.Error("no unsuitable query has several repairs")
	}
}

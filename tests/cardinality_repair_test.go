package tests

import (
	"slices"
	"testing"

	"loop.example/g01918/impl"
)

// largest returns the subset repairs that have the most facts, without the program.
func largest(repairs [][]int) [][]int {
	isSmaller := func(repair []int) bool {
		return slices.ContainsFunc(repairs, func(other []int) bool { return len(other) > len(repair) })
	}
	return slices.DeleteFunc(slices.Clone(repairs), isSmaller)
}

func commonCount(a, b []int) int {
	count := 0
	for _, i := range a {
		if slices.Contains(b, i) {
			count++
		}
	}
	return count
}

func TestCardinalityRepairs(t *testing.T) {
	several, smaller := 0, 0
	for _, c := range constrainedQuestions(36, 500) {
		c = c.roomy()
		subset := c.subsetRepairs()
		want := largest(subset)
		check := watch(t, c.db, c.constraints)
		got, again := impl.CardinalityRepairs(c.db, c.constraints), impl.CardinalityRepairs(c.db, c.constraints)
		deleted := impl.DeletedFactCount(c.db, c.constraints)
		check(got, again)
		if !equalLists(got, want) || !equalLists(again, want) {
			t.Errorf("%v: %v, want %v", c, got, want)
		}
		size := impl.MaximumIndependentSize(len(c.db.Facts), impl.ConflictEdges(c.db, c.constraints))
		for _, repair := range got {
			if len(repair) != size || deleted != len(c.db.Facts)-len(repair) {
				t.Errorf("%v: %v has not %d facts, or %d are not deleted", c, repair, size, deleted)
			}
		}
		if len(got) > 1 && len(got) < len(subset) {
			several++
		}
		if len(got) == 1 && len(subset) > 1 {
			smaller++
		}
	}
	if several < 20 || smaller < 20 {
		t.Errorf("%d questions have several cardinality repairs and other subset repairs, %d have one", several, smaller)
	}
}

func TestQueriesInCardinalityRepairs(t *testing.T) {
	counts := map[[2]bool]int{}
	for _, c := range constrainedQuestions(37, 800) {
		c = c.roomy()
		subset := c.subsetRepairs()
		want, weaker := verdictOf(c.question, largest(subset)), verdictOf(c.question, subset)
		check := watch(t, c.db, c.constraints, c.query)
		isCertain := impl.CardinalityCertain(c.db, c.constraints, c.query)
		falsifying, isFalsified := impl.CardinalityFalsifyingRepair(c.db, c.constraints, c.query)
		again, _ := impl.CardinalityFalsifyingRepair(c.db, c.constraints, c.query)
		check(falsifying, again)
		if isCertain != want.certain || isFalsified == want.certain || !slices.Equal(falsifying, want.falsifying) || !slices.Equal(again, want.falsifying) {
			t.Errorf("%v: certain %v, falsified in %v, %v, want %v", c, isCertain, falsifying, isFalsified, want.falsifying)
		}
		if weaker.certain && !isCertain || impl.SubsetCertain(c.db, c.constraints, c.query) && !isCertain {
			t.Errorf("%v: certain in all subset repairs, but not in all cardinality repairs", c)
		}
		if isFalsified && impl.HoldsIn(c.db, falsifying, c.query) {
			t.Errorf("%v: %v does not falsify the query", c, falsifying)
		}
		counts[[2]bool{weaker.certain, isCertain}]++
	}
	if counts[[2]bool{true, true}] < 50 || counts[[2]bool{false, true}] < 3 || counts[[2]bool{false, false}] < 50 {
		t.Error(counts)
	}
}

func TestClosestRepair(t *testing.T) {
	ties := 0
	for i, c := range constrainedQuestions(38, 250) {
		c = c.roomy()
		subset := c.subsetRepairs()
		conflicts := plainConflicts(c.db, c.constraints)
		for code, indices := range subsets(len(c.db.Facts)) {
			if len(c.db.Facts) > 6 && (i+code)%97 > 0 {
				continue
			}
			indices = roomy(indices)
			best := slices.IndexFunc(subset, func(repair []int) bool {
				return !slices.ContainsFunc(subset, func(other []int) bool { return commonCount(other, indices) > commonCount(repair, indices) })
			})
			check := watch(t, c.db, c.constraints, indices)
			got, ok := impl.ClosestRepair(c.db, c.constraints, indices)
			again, _ := impl.ClosestRepair(c.db, c.constraints, indices)
			check(got, again)
			if !ok || !slices.Equal(got, subset[best]) || !slices.Equal(again, got) {
				t.Errorf("%v: closest to %v is %v, %v, want %v", c, indices, got, ok, subset[best])
			}
			if conflicts.independent(indices) && commonCount(got, indices) != len(indices) {
				t.Errorf("%v: %v without conflicts is not contained in %v", c, indices, got)
			}
			if last := subset[len(subset)-1]; commonCount(last, indices) == commonCount(got, indices) && best < len(subset)-1 && len(indices) > 1 {
				ties++
			}
		}
		for _, indices := range badIndexLists(len(c.db.Facts)) {
			indices = roomy(indices)
			check := watch(t, c.db, c.constraints, indices)
			got, ok := impl.ClosestRepair(c.db, c.constraints, indices)
			check(got)
			if ok || len(got) != 0 {
				t.Errorf("%v: closest to %v is %v, %v", c, indices, got, ok)
			}
		}
	}
	if ties < 100 {
		t.Errorf("only %d ties", ties)
	}
}

func TestRepairsOfEqualSize(t *testing.T) {
	sameValue := []impl.DenialConstraint{constraint(0, 0, 1, 1, 1, 1, impl.CompareEqual)}
	for _, c := range []struct {
		db          string
		constraints []impl.DenialConstraint
		want        [][]int
		deleted     int
	}{
		{"r1/2:r0|0 r0|1 r1|0 r1|1", nil, [][]int{{0, 2}, {0, 3}, {1, 2}, {1, 3}}, 2},
		{"r1/2:r0|0 r0|1 r1|0 r1|1", sameValue, [][]int{{0, 3}, {1, 2}}, 2},
		{"r1/2:r0|5 r1|5 r2|5 r3|6", sameValue, [][]int{{0, 3}, {1, 3}, {2, 3}}, 2},
		{"r1/2:r0|5 r1|5 r1|6", sameValue, [][]int{{0, 2}}, 1},
		{"r1/2:r0|5 r0|6 r1|5 r1|6 r2|6", sameValue, [][]int{{0, 3}, {0, 4}, {1, 2}, {2, 4}}, 3},
		{"r1/2:r0|5 r1|5", sameValue, [][]int{{0}, {1}}, 1}, {"r1/2:r0|5", sameValue, [][]int{{0}}, 0}, {"r1/2:", sameValue, [][]int{{}}, 0},
	} {
		db := database(c.db)
		if got := impl.CardinalityRepairs(db, c.constraints); !equalLists(got, c.want) || impl.DeletedFactCount(db, c.constraints) != c.deleted {
			t.Errorf("%s: %v without %d, want %v without %d", c.db, got, impl.DeletedFactCount(db, c.constraints), c.want, c.deleted)
		}
	}
	db := database("r1/2:r0|5 r1|5 r2|5 r3|6")
	for text, want := range map[string][]int{"?r0|x": {1, 3}, "?r1|x": {0, 3}, "?r2|x": {0, 3}, "?r3|x": nil, "?rx|5": nil, "?rx|7": {0, 3}} {
		q := query(db.Relations, text)
		if got, ok := impl.CardinalityFalsifyingRepair(db, sameValue, q); ok != (want != nil) || !slices.Equal(got, want) || impl.CardinalityCertain(db, sameValue, q) == ok {
			t.Errorf("%s: %v, %v, want %v", text, got, ok, want)
		}
	}
	for _, c := range []struct{ indices, want []int }{
		{nil, []int{0, 3}}, {[]int{0, 1, 2}, []int{0, 3}}, {[]int{1, 2}, []int{1, 3}}, {[]int{2}, []int{2, 3}}, {[]int{3}, []int{0, 3}}, {[]int{1, 3}, []int{1, 3}},
	} {
		if got, ok := impl.ClosestRepair(db, sameValue, c.indices); !ok || !slices.Equal(got, c.want) {
			t.Errorf("closest to %v is %v, %v, want %v", c.indices, got, ok, c.want)
		}
	}
}

// TestSmallerRepairsAreNoCardinalityRepairs has a fact that is in conflict with all others.
func TestSmallerRepairsAreNoCardinalityRepairs(t *testing.T) {
	db := database("r1/2 s1/2:r0|1 s1|0 s2|0 s3|0")
	center := []impl.DenialConstraint{constraint(0, 1, 0, 1, 0, 1, impl.CompareEqual)}
	for _, q := range []struct {
		query               string
		subset, cardinality bool
	}{
		{"?sx|y", false, true}, {"?rx|y", false, false}, {"?s3|x", false, true}, {"?s4|x", false, false},
	} {
		parsed := query(db.Relations, q.query)
		if impl.SubsetCertain(db, center, parsed) != q.subset || impl.CardinalityCertain(db, center, parsed) != q.cardinality {
			t.Errorf("%s: %v and %v", q.query, impl.SubsetCertain(db, center, parsed), impl.CardinalityCertain(db, center, parsed))
		}
	}
	for _, indices := range [][]int{{0}, {0, 1}} {
		if got, ok := impl.ClosestRepair(db, center, indices); !ok || !slices.Equal(got, []int{0}) {
			t.Errorf("closest to %v is %v, %v", indices, got, ok)
		}
	}
}

func TestCardinalityRepairsOfUnsuitableQuestions(t *testing.T) {
	for _, q := range unsuitableQuestions() {
		for _, constraints := range hostileConstraints() {
			c := constrained{q, constraints}.roomy()
			isValid := impl.IsValidDatabase(c.db)
			var want [][]int
			deleted := 0
			if isValid {
				want = largest(c.subsetRepairs())
				deleted = len(c.db.Facts) - len(want[0])
			}
			check := watch(t, c.db, c.constraints, c.query)
			repairs := impl.CardinalityRepairs(c.db, c.constraints)
			falsifying, ok := impl.CardinalityFalsifyingRepair(c.db, c.constraints, c.query)
			closest, isClosest := impl.ClosestRepair(c.db, c.constraints, nil)
			check(repairs, falsifying, closest)
			if !equalLists(repairs, want) || impl.DeletedFactCount(c.db, c.constraints) != deleted {
				t.Errorf("%v: %v without %d, want %v", c.db, repairs, impl.DeletedFactCount(c.db, c.constraints), want)
			}
			if ok || len(falsifying) != 0 || impl.CardinalityCertain(c.db, c.constraints, c.query) {
				t.Errorf("%v, %v: falsified in %v, %v", c.db, c.query, falsifying, ok)
			}
			if isClosest != isValid || !isValid && len(closest) != 0 {
				t.Errorf("%v: closest is %v, %v", c.db, closest, isClosest)
			}
		}
	}
}

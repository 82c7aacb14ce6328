package tests

import (
	"math"
	"slices"
	"strconv"
	"testing"

	"loop.example/g01918/impl"
)

// plainComponents joins the blocks of each witness one after another, without the program.
func plainComponents(q question) [][]int {
	blocks := blocksByKey(q.db)
	name := make([]int, len(blocks))
	for number := range blocks {
		name[number] = number
	}
	for _, witness := range plainWitnesses(q) {
		var joined []int
		for number, block := range blocks {
			if slices.ContainsFunc(block, func(i int) bool { return slices.Contains(witness, i) }) {
				joined = append(joined, name[number])
			}
		}
		for number := range name {
			if slices.Contains(joined, name[number]) {
				name[number] = slices.Min(joined)
			}
		}
	}
	var components [][]int
	for first := range blocks {
		var component []int
		for number := range blocks {
			if name[number] == first {
				component = append(component, number)
			}
		}
		if component != nil {
			components = append(components, component)
		}
	}
	return components
}

func TestBlockComponents(t *testing.T) {
	several := 0
	for _, q := range questions() {
		q = q.roomy()
		want := plainComponents(q)
		check := watch(t, q.db, q.query)
		got, again := impl.BlockComponents(q.db, q.query), impl.BlockComponents(q.db, q.query)
		check(got, again)
		if !equalLists(got, want) || !equalLists(again, want) {
			t.Errorf("%v: %v, want %v", q, got, want)
		}
		if len(got) > 1 && slices.ContainsFunc(got, func(component []int) bool { return len(component) > 1 }) {
			several++
		}
	}
	if several < 50 {
		t.Errorf("only %d questions have several components, one of several blocks", several)
	}
}

func TestBlockComponentsExamples(t *testing.T) {
	for _, c := range []struct {
		db, query string
		want      [][]int
	}{
		{"r1/2 s1/2:r0|0 r0|1 r2|3 r2|7 s0|5 s1|5 s3|1 s9|9", "?rx|y sy|5", [][]int{{0, 2, 3}, {1}, {4}, {5}}},
		{"r1/2 s1/2:r0|0 r0|1 r1|1 r1|2 r2|2 s0|5 s1|5 s2|5", "?rx|y sy|5", [][]int{{0, 1, 2, 3, 4, 5}}},
		{"r1/2 s1/2:r0|2 r1|1 r2|0 s0|5 s1|5 s2|5", "?rx|y sy|z", [][]int{{0, 5}, {1, 4}, {2, 3}}},
		{"r1/2 s1/2:r0|0 r1|1 s0|5 s1|5", "?r0|x s1|y", [][]int{{0, 3}, {1}, {2}}},
		{"r1/2:r0|0 r0|1 r1|0", "?rx|7", [][]int{{0}, {1}}},
		{"r1/2 s1/2:", "?rx|y", nil},
		{"r0/1 s0/1 t0/1:r|0 r|1 s|0 t|0", "?rx tx", [][]int{{0, 2}, {1}}},
	} {
		q := ask(c.db, c.query)
		if got := impl.BlockComponents(q.db, q.query); !equalLists(got, c.want) {
			t.Errorf("%v: %v, want %v", q, got, c.want)
		}
	}
}

// countsOf counts repair by repair, without the program.
func countsOf(q question) (satisfyingCount, falsifyingCount int) {
	_, holds := satisfying(q)
	for _, isSatisfying := range holds {
		if isSatisfying {
			satisfyingCount++
		} else {
			falsifyingCount++
		}
	}
	return satisfyingCount, falsifyingCount
}

func TestCountByComponentsIsExact(t *testing.T) {
	between := 0
	for _, q := range questions() {
		q = q.roomy()
		wantSatisfying, wantFalsifying := countsOf(q)
		check := watch(t, q.db, q.query)
		satisfyingCount, falsifyingCount := impl.CountSatisfying(q.db, q.query), impl.CountFalsifying(q.db, q.query)
		check()
		if satisfyingCount != wantSatisfying || falsifyingCount != wantFalsifying {
			t.Errorf("%v: %d and %d, want %d and %d", q, satisfyingCount, falsifyingCount, wantSatisfying, wantFalsifying)
		}
		if satisfyingCount != impl.CountSatisfyingRepairs(q.db, q.query) || satisfyingCount+falsifyingCount != impl.CountRepairs(q.db) {
			t.Errorf("%v: the counts %d and %d do not agree", q, satisfyingCount, falsifyingCount)
		}
		if wantSatisfying > 0 && wantFalsifying > 0 {
			between++
		}
	}
	if between < 50 {
		t.Errorf("only %d questions hold in some repairs", between)
	}
}

func TestSatisfyingFraction(t *testing.T) {
	reduced := 0
	for _, q := range questions() {
		q = q.roomy()
		satisfyingCount, falsifyingCount := countsOf(q)
		all := satisfyingCount + falsifyingCount
		check := watch(t, q.db, q.query)
		got, ok := impl.SatisfyingFraction(q.db, q.query)
		check()
		if !ok || got.Denominator < 1 || got.Numerator*all != satisfyingCount*got.Denominator {
			t.Errorf("%v: %v, %v, want %d of %d", q, got, ok, satisfyingCount, all)
		}
		for divisor := 2; divisor <= got.Denominator; divisor++ {
			if got.Numerator%divisor == 0 && got.Denominator%divisor == 0 {
				t.Errorf("%v: %v is not in lowest terms", q, got)
			}
		}
		if got.Denominator < all && got.Numerator > 0 && got.Denominator > 1 {
			reduced++
		}
	}
	if reduced < 20 {
		t.Errorf("only %d fractions are reduced", reduced)
	}
}

func TestSatisfyingFractionExamples(t *testing.T) {
	const db = "r1/2 s1/2:r0|0 r0|1 r2|3 r2|7 r4|4 r4|5 r4|6 s0|5 s1|5 s3|1 s9|9"
	for _, c := range []struct {
		query string
		want  impl.Fraction
	}{
		{"?rx|8", impl.Fraction{Numerator: 0, Denominator: 1}}, {"?rx|y", impl.Fraction{Numerator: 1, Denominator: 1}},
		{"?rx|y sy|1", impl.Fraction{Numerator: 1, Denominator: 2}}, {"?r4|x s9|y", impl.Fraction{Numerator: 1, Denominator: 1}},
		{"?r4|5", impl.Fraction{Numerator: 1, Denominator: 3}}, {"?rx|x", impl.Fraction{Numerator: 2, Denominator: 3}},
		{"?rx|1", impl.Fraction{Numerator: 1, Denominator: 2}},
	} {
		q := ask(db, c.query)
		if got, ok := impl.SatisfyingFraction(q.db, q.query); !ok || got != c.want {
			t.Errorf("%v: %v, %v, want %v", q, got, ok, c.want)
		}
	}
}

// TestComponentThatNeverSatisfies has components without a witness, which multiply the number of repairs.
func TestComponentThatNeverSatisfies(t *testing.T) {
	for _, c := range []struct {
		db, query                   string
		satisfyingWant, falsifyWant int
	}{
		{"r1/2 s1/2:r0|0 r0|1 r2|3 r2|7 s0|5 s1|5 s3|1 s9|9", "?rx|y sy|5", 4, 0},
		{"r1/2 s1/2:r0|0 r0|1 r2|3 r2|7 s0|5 s1|5 s3|1 s9|9", "?rx|y sy|1", 2, 2},
		{"r1/2:r0|0 r0|1 r1|2 r1|3 r1|4", "?rx|7", 0, 6}, {"r1/2:r0|0 r0|1 r1|2 r1|3 r1|4", "?rx|1", 3, 3},
		{"r1/2 s1/2:r0|0 r0|1 s0|0 s0|1 s0|2", "?r0|1", 3, 3}, {"r1/2 s1/2:r0|0 s0|0 s0|1", "?rx|y", 2, 0},
		{"r1/2 s1/2:", "?rx|y", 0, 1}, {"r1/2 s1/2:s0|0 s0|1", "?rx|y", 0, 2},
		{"r1/2:r0|0 r0|1 r0|2 r1|0 r1|1 r1|2 r2|0 r2|1 r2|2 r3|0 r3|1 r3|2 r4|0 r4|1", "?rx|2", 130, 32},
	} {
		q := ask(c.db, c.query)
		satisfyingCount, falsifyingCount := impl.CountSatisfying(q.db, q.query), impl.CountFalsifying(q.db, q.query)
		if satisfyingCount != c.satisfyingWant || falsifyingCount != c.falsifyWant {
			t.Errorf("%v: %d and %d, want %d and %d", q, satisfyingCount, falsifyingCount, c.satisfyingWant, c.falsifyWant)
		}
	}
}

func TestCountsOfUnsuitableQuestions(t *testing.T) {
	for _, q := range unsuitableQuestions() {
		q = q.roomy()
		check := watch(t, q.db, q.query)
		components := impl.BlockComponents(q.db, q.query)
		satisfyingCount, falsifyingCount := impl.CountSatisfying(q.db, q.query), impl.CountFalsifying(q.db, q.query)
		fraction, ok := impl.SatisfyingFraction(q.db, q.query)
		check(components)
		if len(components) != 0 || satisfyingCount != 0 || falsifyingCount != 0 || ok || fraction != (impl.Fraction{}) {
			t.Errorf("%v, %v: %v, %d, %d, %v, %v", q.db, q.query, components, satisfyingCount, falsifyingCount, fraction, ok)
		}
	}
}

func TestFormatFraction(t *testing.T) {
	for _, numerator := range hostileInts {
		for _, denominator := range hostileInts {
			want := strconv.Itoa(numerator) + "/" + strconv.Itoa(denominator)
			if got := impl.FormatFraction(impl.Fraction{Numerator: numerator, Denominator: denominator}); got != want {
				t.Errorf("%q, want %q", got, want)
			}
		}
	}
	if got := impl.FormatFraction(impl.Fraction{Numerator: math.MinInt, Denominator: 6}); got != "-9223372036854775808/6" {
		t.Error(got)
	}
}

package tests

import (
	"math"
	"math/rand"
	"slices"
	"testing"

	"loop.example/g01918/impl"
)

// randomWeights returns valid weights, of which many are equal.
func randomWeights(random *rand.Rand, db impl.Database) []int {
	choices := [][]int{{1, 2, 3, 4, 5, 6, 7, 8, 9}, {1, 9}, {9}, {1}, {2, 4, 6}}[random.Intn(5)]
	weights := []int{}
	for range db.Facts {
		weights = append(weights, choices[random.Intn(len(choices))])
	}
	return weights
}

// badWeights returns lists that are not as long as the facts or have a weight out of range.
func badWeights(db impl.Database) [][]int {
	n := len(db.Facts)
	lists := [][]int{slices.Repeat([]int{1}, n+1), slices.Repeat([]int{0}, n+1)}
	for i := range n {
		for _, weight := range []int{math.MinInt, -1, 0, 10, 64, math.MaxInt} {
			weights := slices.Repeat([]int{3}, n)
			weights[i] = weight
			lists = append(lists, weights)
		}
	}
	if n > 0 {
		lists = append(lists, nil, slices.Repeat([]int{1}, n-1))
	}
	return lists
}

func arePlainWeights(db impl.Database, weights []int) bool {
	isWeight := func(weight int) bool { return weight >= 1 && weight <= 9 }
	return len(weights) == len(db.Facts) && !slices.ContainsFunc(weights, func(weight int) bool { return !isWeight(weight) })
}

func plainWeight(weights, indices []int) int {
	weight := 1
	for _, i := range indices {
		weight *= weights[i]
	}
	return weight
}

// weightsOf returns the weights of all repairs and of those in which the query holds, without the program.
func weightsOf(q question, weights []int) (total, satisfied int) {
	repairs, holds := satisfying(q)
	for i, repair := range repairs {
		total += plainWeight(weights, repair)
		if holds[i] {
			satisfied += plainWeight(weights, repair)
		}
	}
	return total, satisfied
}

func isReduced(fraction impl.Fraction) bool {
	for divisor := 2; divisor <= max(fraction.Numerator, 1) && divisor <= 100000; divisor++ {
		if fraction.Numerator%divisor == 0 && fraction.Denominator%divisor == 0 {
			return false
		}
	}
	return fraction.Numerator > 0 || fraction.Denominator == 1
}

func TestAreValidWeights(t *testing.T) {
	if impl.MaxWeight != 9 {
		t.Error(impl.MaxWeight)
	}
	random := rand.New(rand.NewSource(44))
	for _, db := range aggregateDatabases() {
		db = roomy(db)
		for _, weights := range append(badWeights(db), randomWeights(random, db), slices.Repeat([]int{1}, len(db.Facts)), slices.Repeat([]int{9}, len(db.Facts))) {
			weights = roomy(weights)
			check := watch(t, db, weights)
			got := impl.AreValidWeights(db, weights)
			check()
			if got != arePlainWeights(db, weights) {
				t.Errorf("%s: %v are valid: %v", databaseText(db), weights, got)
			}
		}
	}
}

func TestRepairWeight(t *testing.T) {
	random := rand.New(rand.NewSource(45))
	eachIndexList(func(db impl.Database, indices []int, isValid bool) {
		weights := roomy(randomWeights(random, db))
		want := 0
		if isValid {
			want = plainWeight(weights, indices)
		}
		check := watch(t, db, weights, indices)
		got := impl.RepairWeight(db, weights, indices)
		check()
		if got != want {
			t.Fatalf("%s, %v: the weight of %v is %d, want %d", databaseText(db), weights, indices, got, want)
		}
	})
}

func TestTotalWeightAndMostLikelyRepair(t *testing.T) {
	random := rand.New(rand.NewSource(46))
	ties := 0
	for _, db := range aggregateDatabases() {
		db = roomy(db)
		for range 3 {
			weights := roomy(randomWeights(random, db))
			total := 0
			var best []int
			for _, repair := range repairsInOrder(db) {
				weight := plainWeight(weights, repair)
				total += weight
				if best == nil || weight > plainWeight(weights, best) {
					best = repair
				} else if weight == plainWeight(weights, best) {
					ties++
				}
				if impl.RepairWeight(db, weights, repair) != weight {
					t.Errorf("%s, %v: the weight of %v is %d, want %d", databaseText(db), weights, repair, impl.RepairWeight(db, weights, repair), weight)
				}
			}
			check := watch(t, db, weights)
			gotTotal := impl.TotalWeight(db, weights)
			got, ok := impl.MostLikelyRepair(db, weights)
			again, _ := impl.MostLikelyRepair(db, weights)
			check(got, again)
			if gotTotal != total {
				t.Errorf("%s, %v: the total weight is %d, want %d", databaseText(db), weights, gotTotal, total)
			}
			// The first repair of the largest weight has the first fact of the largest weight in each block.
			if !ok || !slices.Equal(got, best) || !slices.Equal(again, best) || !impl.IsRepair(db, got) {
				t.Errorf("%s, %v: %v, %v, want %v", databaseText(db), weights, got, ok, best)
			}
			for _, repair := range repairsInOrder(db) {
				if impl.RepairWeight(db, weights, repair) > impl.RepairWeight(db, weights, got) {
					t.Errorf("%s, %v: %v has a larger weight than %v", databaseText(db), weights, repair, got)
				}
			}
		}
	}
	if ties < 100 {
		t.Errorf("only %d ties", ties)
	}
}

func TestProbability(t *testing.T) {
	random := rand.New(rand.NewSource(47))
	between := 0
	for _, q := range questions() {
		q = q.roomy()
		weights := roomy(randomWeights(random, q.db))
		total, satisfied := weightsOf(q, weights)
		check := watch(t, q.db, weights, q.query)
		got, ok := impl.Probability(q.db, weights, q.query)
		byComponents, isByComponents := impl.ProbabilityByComponents(q.db, weights, q.query)
		check()
		if !ok || !isReduced(got) || got.Denominator < 1 || total%got.Denominator != 0 || total/got.Denominator*got.Numerator != satisfied {
			t.Errorf("%v, %v: %v, %v, want %d of %d", q, weights, got, ok, satisfied, total)
		}
		if !isByComponents || byComponents != got {
			t.Errorf("%v, %v: by components %v, %v, want %v", q, weights, byComponents, isByComponents, got)
		}
		if satisfied > 0 && satisfied < total {
			between++
		}
	}
	if between < 50 {
		t.Errorf("only %d questions hold in some repairs", between)
	}
}

func TestEqualWeightsCountRepairs(t *testing.T) {
	for _, q := range questions() {
		want, _ := impl.SatisfyingFraction(q.db, q.query)
		for weight := 1; weight <= 9; weight += 4 {
			weights := slices.Repeat([]int{weight}, len(q.db.Facts))
			if got, ok := impl.Probability(q.db, weights, q.query); !ok || got != want {
				t.Errorf("%v with equal weights %d: %v, %v, want %v", q, weight, got, ok, want)
			}
			if got, ok := impl.ProbabilityByComponents(q.db, weights, q.query); !ok || got != want {
				t.Errorf("%v with equal weights %d: by components %v, %v, want %v", q, weight, got, ok, want)
			}
		}
	}
}

func TestProbabilityExamples(t *testing.T) {
	const db = "r1/2 s1/2:r0|0 r0|1 s0|5 s1|6 s1|7"
	weights := []int{1, 3, 1, 2, 4}
	for _, c := range []struct {
		query string
		want  impl.Fraction
	}{
		{"?rx|y sy|6", impl.Fraction{Numerator: 1, Denominator: 4}}, {"?rx|y sy|7", impl.Fraction{Numerator: 1, Denominator: 2}},
		{"?rx|y sy|5", impl.Fraction{Numerator: 1, Denominator: 4}}, {"?rx|y", impl.Fraction{Numerator: 1, Denominator: 1}},
		{"?rx|2", impl.Fraction{Numerator: 0, Denominator: 1}}, {"?r0|1", impl.Fraction{Numerator: 3, Denominator: 4}}, {"?s1|6", impl.Fraction{Numerator: 1, Denominator: 3}},
		{"?rx|1 s1|6", impl.Fraction{Numerator: 1, Denominator: 4}}, {"x?rx|0", impl.Fraction{Numerator: 1, Denominator: 4}},
	} {
		q := ask(db, c.query)
		got, ok := impl.Probability(q.db, weights, q.query)
		byComponents, isByComponents := impl.ProbabilityByComponents(q.db, weights, q.query)
		if !ok || got != c.want || !isByComponents || byComponents != c.want {
			t.Errorf("%v: %v, %v, by components %v, %v, want %v", q, got, ok, byComponents, isByComponents, c.want)
		}
	}
	d := database(db)
	if total, weight := impl.TotalWeight(d, weights), impl.RepairWeight(d, weights, []int{1, 2, 3}); total != 24 || weight != 6 {
		t.Errorf("%d and %d", total, weight)
	}
	if got, ok := impl.MostLikelyRepair(d, weights); !ok || !slices.Equal(got, []int{1, 2, 4}) {
		t.Errorf("%v, %v", got, ok)
	}
	if got, ok := impl.MostLikelyRepair(d, []int{2, 2, 9, 5, 5}); !ok || !slices.Equal(got, []int{0, 2, 3}) {
		t.Errorf("of equal weights: %v, %v", got, ok)
	}
	if got := impl.RepairWeight(d, weights, []int{0, 1, 4}); got != 12 {
		t.Errorf("the weight of facts in conflict is %d", got)
	}
	if got := impl.RepairWeight(d, weights, nil); got != 1 {
		t.Errorf("the weight of no facts is %d", got)
	}
	if got, ok := impl.MostLikelyRepair(impl.Database{}, nil); !ok || len(got) != 0 || impl.TotalWeight(impl.Database{}, nil) != 1 || !impl.AreValidWeights(impl.Database{}, nil) {
		t.Errorf("without facts: %v, %v", got, ok)
	}
}

// TestLargestWeights has as many blocks as there can be, with the largest weights.
func TestLargestWeights(t *testing.T) {
	q := ask("r1/1 s1/2:r0 r1 r2 r3 r4 r5 r6 r7 r8 r9 s0|0 s1|1 s2|2 s3|3", "?rx sx|y")
	weights := slices.Repeat([]int{9}, 14)
	const all = 22876792454961
	if got := impl.TotalWeight(q.db, weights); got != all || impl.RepairWeight(q.db, weights, subsets(14)[1<<14-1]) != all {
		t.Errorf("%d", got)
	}
	one := impl.Fraction{Numerator: 1, Denominator: 1}
	if got, ok := impl.Probability(q.db, weights, q.query); !ok || got != one {
		t.Errorf("%v, %v", got, ok)
	}
	if got, ok := impl.ProbabilityByComponents(q.db, weights, q.query); !ok || got != one {
		t.Errorf("by components: %v, %v", got, ok)
	}
	pairs := ask("r1/2:r0|0 r0|1 r1|0 r1|1 r2|0 r2|1 r3|0 r3|1 r4|0 r4|1 r5|0 r5|1 r6|0 r6|1", "?rx|0")
	lopsided := slices.Repeat([]int{9, 8}, 7)
	want := impl.Fraction{Numerator: 410338673 - 2097152, Denominator: 410338673}
	if got, ok := impl.Probability(pairs.db, lopsided, pairs.query); !ok || got != want {
		t.Errorf("%v, %v, want %v", got, ok, want)
	}
	if got, ok := impl.ProbabilityByComponents(pairs.db, lopsided, pairs.query); !ok || got != want {
		t.Errorf("by components: %v, %v, want %v", got, ok, want)
	}
}

func TestInvalidWeights(t *testing.T) {
	q := ask("r1/2 s1/2:r0|0 r0|1 s0|5 s1|6 s1|7", "?rx|y sy|6")
	for _, weights := range badWeights(q.db) {
		weights = roomy(weights)
		check := watch(t, q.db, weights)
		byRepairs, ok := impl.Probability(q.db, weights, q.query)
		byComponents, isByComponents := impl.ProbabilityByComponents(q.db, weights, q.query)
		repair, isRepair := impl.MostLikelyRepair(q.db, weights)
		check(repair)
		if ok || isByComponents || byRepairs != (impl.Fraction{}) || byComponents != (impl.Fraction{}) {
			t.Errorf("%v: %v, %v, by components %v, %v", weights, byRepairs, ok, byComponents, isByComponents)
		}
		if isRepair || len(repair) != 0 || impl.TotalWeight(q.db, weights) != 0 || impl.AreValidWeights(q.db, weights) {
			t.Errorf("%v: %v, %v, the total weight is %d", weights, repair, isRepair, impl.TotalWeight(q.db, weights))
		}
		for _, indices := range [][]int{nil, {0}, {0, 2, 3}} {
			if got := impl.RepairWeight(q.db, weights, indices); got != 0 {
				t.Errorf("%v: the weight of %v is %d", weights, indices, got)
			}
		}
	}
}

func TestProbabilitiesOfUnsuitableQuestions(t *testing.T) {
	for _, q := range unsuitableQuestions() {
		q = q.roomy()
		weights := roomy(slices.Repeat([]int{1}, len(q.db.Facts)))
		isValid := impl.IsValidDatabase(q.db)
		check := watch(t, q.db, weights, q.query)
		byRepairs, ok := impl.Probability(q.db, weights, q.query)
		byComponents, isByComponents := impl.ProbabilityByComponents(q.db, weights, q.query)
		repair, isRepair := impl.MostLikelyRepair(q.db, weights)
		check(repair)
		if ok || isByComponents || byRepairs != (impl.Fraction{}) || byComponents != (impl.Fraction{}) {
			t.Errorf("%v, %v: %v, %v, by components %v, %v", q.db, q.query, byRepairs, ok, byComponents, isByComponents)
		}
		if isRepair != isValid || !isValid && len(repair) != 0 || impl.AreValidWeights(q.db, weights) != isValid || (impl.TotalWeight(q.db, weights) > 0) != isValid {
			t.Errorf("%v: %v, %v, the total weight is %d", q.db, repair, isRepair, impl.TotalWeight(q.db, weights))
		}
		if got := impl.RepairWeight(q.db, weights, nil); (got == 1) != isValid || got > 1 {
			t.Errorf("%v: the weight of no facts is %d", q.db, got)
		}
	}
}

package tests

import (
	"math"
	"math/rand"
	"slices"
	"strconv"
	"strings"
	"testing"

	"loop.example/g01918/impl"
)

func sameDerivation(a, b []impl.DerivationStep) bool {
	return slices.EqualFunc(a, b, func(a, b impl.DerivationStep) bool { return a.Block == b.Block && slices.Equal(a.Facts, b.Facts) })
}

// judge decides about derivations of one question without the program.
type judge struct {
	q                 question
	blocks, witnesses [][]int
}

func newJudge(q question) judge {
	return judge{q, blocksByKey(q.db), plainWitnesses(q)}
}

func (j judge) isPartialRepair(facts []int) bool {
	for i, f := range facts {
		if f < 0 || f >= len(j.q.db.Facts) || i > 0 && facts[i-1] >= f {
			return false
		}
	}
	return takesOnePerBlock(j.q.db, facts)
}

func (j judge) isValidStep(step impl.DerivationStep, earlier [][]int) bool {
	switch {
	case !j.isPartialRepair(step.Facts):
		return false
	case step.Block == -1:
		return containsSubset(j.witnesses, step.Facts)
	}
	for number, block := range j.blocks {
		if number == step.Block {
			return followsBy(block, step.Facts, earlier)
		}
	}
	return false
}

func (j judge) isValid(derivation []impl.DerivationStep) bool {
	var earlier [][]int
	for _, step := range derivation {
		if !j.isValidStep(step, earlier) {
			return false
		}
		earlier = append(earlier, step.Facts)
	}
	return len(derivation) > 0 && len(derivation[len(derivation)-1].Facts) == 0
}

func (j judge) shorten(derivation []impl.DerivationStep) []impl.DerivationStep {
	if !j.isValid(derivation) {
		return derivation
	}
	for i := len(derivation) - 2; i >= 0; i-- {
		if shorter := slices.Delete(slices.Clone(derivation), i, i+1); j.isValid(shorter) {
			derivation = shorter
		}
	}
	return derivation
}

// derive returns the fixpoint sets up to the empty one with their first reasons.
func (j judge) derive() ([]impl.DerivationStep, bool) {
	sets, _ := plainFixpoint(j.q)
	var derivation []impl.DerivationStep
	for i, set := range sets {
		step := impl.DerivationStep{Facts: set, Block: -1}
		for !j.isValidStep(step, sets[:i]) {
			step.Block++
		}
		derivation = append(derivation, step)
		if len(set) == 0 {
			return derivation, true
		}
	}
	return nil, false
}

func (j judge) text(derivation []impl.DerivationStep) string {
	var parts []string
	for _, step := range derivation {
		var facts []string
		isValid := !slices.ContainsFunc(step.Facts, func(i int) bool { return i < 0 || i >= len(j.q.db.Facts) })
		for i, f := range step.Facts {
			isValid = isValid && (i == 0 || step.Facts[i-1] < f)
		}
		for _, i := range step.Facts {
			if isValid {
				facts = append(facts, factText(j.q.db.Relations, j.q.db.Facts[i]))
			}
		}
		text := "{" + strings.Join(facts, " ") + "}"
		if step.Block >= 0 {
			text += "by" + strconv.Itoa(step.Block)
		}
		parts = append(parts, text)
	}
	return strings.Join(parts, " ")
}

// check compares all functions that take the derivation with the judge.
func (j judge) check(t *testing.T, derivation []impl.DerivationStep) bool {
	t.Helper()
	derivation = roomy(derivation)
	check := watch(t, j.q.db, j.q.query, derivation)
	isValid := impl.IsValidDerivation(j.q.db, j.q.query, derivation)
	short, again := impl.ShortenDerivation(j.q.db, j.q.query, derivation), impl.ShortenDerivation(j.q.db, j.q.query, derivation)
	text := impl.FormatDerivation(j.q.db, derivation)
	check(short, again)
	if isValid != j.isValid(derivation) {
		t.Errorf("%v: IsValidDerivation(%v) = %v", j.q, derivation, isValid)
	}
	if want := j.shorten(derivation); !sameDerivation(short, want) || !sameDerivation(again, want) {
		t.Errorf("%v: ShortenDerivation(%v) = %v, want %v", j.q, derivation, short, want)
	}
	if isValid && (!impl.IsValidDerivation(j.q.db, j.q.query, short) || len(short) > len(derivation)) {
		t.Errorf("%v: %v is shortened to %v", j.q, derivation, short)
	}
	if want := j.text(derivation); text != want {
		t.Errorf("%v: FormatDerivation(%v) = %q, want %q", j.q, derivation, text, want)
	}
	return isValid
}

func TestFindDerivation(t *testing.T) {
	found := 0
	for _, q := range append(questionsUpTo(9), namedQuestions()...) {
		q = q.roomy()
		want, wantOK := newJudge(q).derive()
		check := watch(t, q.db, q.query)
		got, ok := impl.FindDerivation(q.db, q.query)
		again, _ := impl.FindDerivation(q.db, q.query)
		check(got, again)
		if ok != wantOK || !sameDerivation(got, want) || !sameDerivation(again, want) {
			t.Errorf("%v: %v, %v, want %v, %v", q, got, ok, want, wantOK)
		}
		if ok != impl.CertainByFixpoint(q.db, q.query) || ok && !impl.IsValidDerivation(q.db, q.query, got) {
			t.Errorf("%v: %v, %v", q, got, ok)
		}
		if ok {
			found++
		}
	}
	if found < 50 {
		t.Errorf("only %d derivations", found)
	}
}

// derivationChanges returns derivations that differ from the given one in one place.
func derivationChanges(derivation []impl.DerivationStep, facts int) [][]impl.DerivationStep {
	var changes [][]impl.DerivationStep
	add := func(change func(steps []impl.DerivationStep) []impl.DerivationStep) {
		changes = append(changes, change(cloned(derivation)))
	}
	for i := range derivation {
		add(func(steps []impl.DerivationStep) []impl.DerivationStep { return slices.Delete(steps, i, i+1) })
		add(func(steps []impl.DerivationStep) []impl.DerivationStep { return steps[:i] })
		add(func(steps []impl.DerivationStep) []impl.DerivationStep { return steps[i:] })
		add(func(steps []impl.DerivationStep) []impl.DerivationStep {
			return slices.Insert(steps, i, cloned(steps[i]))
		})
		for _, k := range []int{i + 1, len(derivation) - 1, i / 2} {
			add(func(steps []impl.DerivationStep) []impl.DerivationStep {
				k = min(k, len(steps)-1)
				steps[i], steps[k] = steps[k], steps[i]
				return steps
			})
		}
		for _, block := range []int{math.MinInt, -2, -1, 0, 1, 2, 3, 7, 14, math.MaxInt} {
			add(func(steps []impl.DerivationStep) []impl.DerivationStep {
				steps[i].Block = block
				return steps
			})
		}
		for _, f := range []int{-1, 0, i % max(facts, 1), facts - 1, facts, math.MaxInt} {
			add(func(steps []impl.DerivationStep) []impl.DerivationStep {
				steps[i].Facts = append(steps[i].Facts, f)
				return steps
			})
			add(func(steps []impl.DerivationStep) []impl.DerivationStep {
				steps[i].Facts = with(steps[i].Facts, f)
				return steps
			})
		}
		add(func(steps []impl.DerivationStep) []impl.DerivationStep {
			steps[i].Facts = steps[i].Facts[min(1, len(steps[i].Facts)):]
			return steps
		})
	}
	return changes
}

func TestChangedDerivations(t *testing.T) {
	counts := map[bool]int{}
	for _, q := range questionsUpTo(7) {
		derivation, ok := impl.FindDerivation(q.db, q.query)
		if !ok || len(derivation) > 25 {
			continue
		}
		j := newJudge(q.roomy())
		if !j.check(t, derivation) {
			t.Errorf("%v: the found derivation is refused", q)
		}
		// Long derivations have so many changes that some of them suffice.
		for i, changed := range derivationChanges(derivation, len(q.db.Facts)) {
			if i%(1+len(derivation)/5) == 0 {
				counts[j.check(t, changed)]++
			}
		}
	}
	if counts[true] < 500 || counts[false] < 500 {
		t.Error(counts)
	}
}

func TestNoDerivationOfAnUncertainQuery(t *testing.T) {
	random := rand.New(rand.NewSource(19))
	valid := 0
	for _, q := range questionsUpTo(9) {
		j := newJudge(q.roomy())
		sets := plainPartialRepairs(q.db, 3)
		isCertain := isPlainCertain(q)
		for range 4 {
			var derivation []impl.DerivationStep
			for range random.Intn(20) {
				derivation = append(derivation, impl.DerivationStep{Facts: sets[random.Intn(len(sets))], Block: random.Intn(len(j.blocks)+2) - 1})
			}
			// Without the steps that are not valid, longer derivations are valid more often.
			var kept [][]int
			derivation = slices.DeleteFunc(derivation, func(step impl.DerivationStep) bool {
				isValid := j.isValidStep(step, kept)
				if isValid {
					kept = append(kept, step.Facts)
				}
				return !isValid && random.Intn(20) > 0
			})
			derivation = append(derivation, impl.DerivationStep{Block: random.Intn(len(j.blocks)+2) - 1})
			if j.check(t, derivation) {
				valid++
				if !isCertain {
					t.Errorf("%v is not certain, but %v is valid", q, derivation)
				}
			}
		}
		all, _ := plainFixpoint(q)
		for block := -1; block <= len(j.blocks); block++ {
			derivation := []impl.DerivationStep{}
			for i, set := range all {
				step := impl.DerivationStep{Facts: set, Block: -1}
				for !j.isValidStep(step, all[:i]) {
					step.Block++
				}
				derivation = append(derivation, step)
			}
			derivation = append(derivation, impl.DerivationStep{Block: block})
			if impl.IsValidDerivation(q.db, q.query, derivation) && !isCertain {
				t.Errorf("%v is not certain, but %v is valid", q, derivation)
			}
		}
	}
	if valid == 0 {
		t.Error("no random derivation is valid")
	}
}

func TestStepThatDependsOnALaterOne(t *testing.T) {
	q := ask("r1/2 s1/2:r0|0 r0|1 s0|5 s1|5", "?rx|y sy|z")
	steps := []impl.DerivationStep{
		{Facts: []int{0, 2}, Block: -1}, {Facts: []int{1, 3}, Block: -1}, {Facts: []int{0}, Block: 1}, {Facts: []int{1}, Block: 2}, {Block: 0},
	}
	for _, c := range []struct {
		order []int
		want  bool
	}{
		{[]int{0, 1, 2, 3, 4}, true}, {[]int{1, 0, 3, 2, 4}, true}, {[]int{0, 2, 1, 3, 4}, true}, {[]int{2, 0, 1, 3, 4}, false},
		{[]int{0, 1, 2, 4, 3}, false}, {[]int{0, 3, 1, 2, 4}, false}, {[]int{0, 1, 4, 2, 3, 4}, false}, {[]int{0, 1, 2, 3, 4, 4}, true},
		{[]int{0, 1, 2, 3, 3, 0, 4}, true}, {[]int{0, 1, 2, 4}, false}, {[]int{4}, false}, {[]int{3, 1, 0, 2, 4, 3}, false},
	} {
		var derivation []impl.DerivationStep
		for _, i := range c.order {
			derivation = append(derivation, steps[i])
		}
		if got := impl.IsValidDerivation(q.db, q.query, derivation); got != c.want {
			t.Errorf("the order %v: %v", c.order, got)
		}
		short := impl.ShortenDerivation(q.db, q.query, derivation)
		if c.want && len(short) != 5 || !c.want && !sameDerivation(short, derivation) {
			t.Errorf("the order %v: shortened to %v", c.order, short)
		}
	}
}

// TestStepsLargerThanTheQuery has steps with more facts than the query has atoms.
func TestStepsLargerThanTheQuery(t *testing.T) {
	q := ask("r1/2 s1/2 t1/1:r0|0 r0|1 s0|5 s1|5 t0", "?rx|y sy|z")
	derivation := []impl.DerivationStep{
		{Facts: []int{0, 2, 3}, Block: -1}, {Facts: []int{0, 2, 3, 4}, Block: -1}, {Facts: []int{1, 2, 3}, Block: -1}, {Facts: []int{2, 3}, Block: 0},
		{Facts: []int{3}, Block: 1}, {Block: 2},
	}
	if !impl.IsValidDerivation(q.db, q.query, derivation) {
		t.Errorf("%v is refused", derivation)
	}
	want := slices.Delete(slices.Clone(derivation), 1, 2)
	if got := impl.ShortenDerivation(q.db, q.query, derivation); !sameDerivation(got, want) {
		t.Errorf("%v, want %v", got, want)
	}
}

func TestFormatDerivation(t *testing.T) {
	db := database("r1/2 s1/2:r0|0 r0|1 s0|5 s1|5")
	for _, c := range []struct {
		steps []impl.DerivationStep
		want  string
	}{
		{nil, ""},
		{[]impl.DerivationStep{{}}, "{}by0"},
		{[]impl.DerivationStep{{Facts: []int{0, 2}, Block: -1}, {Facts: []int{0}, Block: 12}, {Block: -9}}, "{r0|0 s0|5} {r0|0}by12 {}"},
		{[]impl.DerivationStep{{Facts: []int{0, 1, 2, 3}, Block: math.MaxInt}}, "{r0|0 r0|1 s0|5 s1|5}by9223372036854775807"},
		{[]impl.DerivationStep{{Facts: []int{4}, Block: 1}, {Facts: []int{1, 0}, Block: math.MinInt}}, "{}by1 {}"},
	} {
		if got := impl.FormatDerivation(db, c.steps); got != c.want {
			t.Errorf("%v: %s, want %s", c.steps, got, c.want)
		}
	}
	for _, db := range invalidDatabases() {
		if got := impl.FormatDerivation(db, []impl.DerivationStep{{Block: 1}}); got != "" {
			t.Errorf("%v: %s", db, got)
		}
	}
}

func TestDerivationsOfUnsuitableQuestions(t *testing.T) {
	derivations := [][]impl.DerivationStep{
		nil, {{Block: -1}}, {{Block: 0}}, {{Facts: []int{0}, Block: -1}, {Block: 0}}, {{Facts: []int{-5, math.MaxInt}, Block: 7}, {Facts: []int{}}},
	}
	for _, q := range unsuitableQuestions() {
		if got, ok := impl.FindDerivation(q.db, q.query); ok || len(got) != 0 {
			t.Errorf("FindDerivation(%v, %v) = %v, %v", q.db, q.query, got, ok)
		}
		for _, derivation := range derivations {
			derivation = roomy(derivation)
			check := watch(t, q.db, q.query, derivation)
			if impl.IsValidDerivation(q.db, q.query, derivation) {
				t.Errorf("IsValidDerivation(%v, %v, %v)", q.db, q.query, derivation)
			}
			got := impl.ShortenDerivation(q.db, q.query, derivation)
			check(got)
			if !sameDerivation(got, derivation) {
				t.Errorf("ShortenDerivation(%v, %v, %v) = %v", q.db, q.query, derivation, got)
			}
		}
	}
}

package tests

import (
	"math"
	"slices"
	"strings"
	"testing"

	"loop.example/g01918/impl"
)

func sameJustification(a, b impl.Justification) bool {
	return a.Method == b.Method && a.Certain == b.Certain && slices.Equal(a.Repair, b.Repair) && sameSteps(a.Rewriting, b.Rewriting) &&
		sameDerivation(a.Derivation, b.Derivation) && equalLists(a.Proof, b.Proof)
}

func isZeroJustification(j impl.Justification) bool {
	return sameJustification(j, impl.Justification{})
}

// plainlyJustified follows the document, without the program, for a question with a suitable query.
func plainlyJustified(q question, j impl.Justification) bool {
	if len(q.query.Free) > 0 {
		return false
	}
	isRepair := func(repair []int) bool { return slices.Equal(repair, j.Repair) }
	repairs, holds := satisfying(q)
	rank := slices.IndexFunc(repairs, isRepair)
	isFalsified := rank >= 0 && !holds[rank]
	switch j.Method {
	case 1:
		steps, ok := plainRewriting(schemaQuery{q.db.Relations, q.query})
		isProven := ok && sameSteps(steps, j.Rewriting) && plainTruth(q.db, steps, nil)
		return j.Certain && isProven || !j.Certain && isFalsified
	case 2:
		return j.Certain && newJudge(q).isValid(j.Derivation) || !j.Certain && isFalsified
	case 3:
		n, clauses := len(q.db.Facts), impl.FalsityClauses(q.db, q.query)
		isProof := !slices.ContainsFunc(j.Proof, func(clause []int) bool { return !isPlainClause(n, clause) }) && isPlainProof(n, clauses, j.Proof)
		return j.Certain && isProof || !j.Certain && isFalsified
	}
	return false
}

// plainDecision returns what a method that applies decides, without the program but for the parts that have chapters of their own.
func plainDecision(q question, method int) (impl.Justification, bool) {
	j := impl.Justification{Method: method}
	rewriting, isFirstOrder := plainRewriting(schemaQuery{q.db.Relations, q.query})
	model, proof, isFalsifiable := plainSearch(len(q.db.Facts), impl.FalsityClauses(q.db, q.query), nil, nil)
	switch {
	case len(q.query.Free) > 0 || method == 1 && !isFirstOrder:
		return impl.Justification{}, false
	case method == 1:
		if j.Certain = plainTruth(q.db, rewriting, nil); j.Certain {
			j.Rewriting = rewriting
		}
	case method == 2:
		j.Derivation, j.Certain = newJudge(q).derive()
	case method == 3:
		j.Certain, j.Proof = !isFalsifiable, proof
	default:
		return impl.Justification{}, false
	}
	if !j.Certain {
		if !isFalsifiable {
			return impl.Justification{}, false
		}
		j.Repair, _ = plainRepairFromFacts(q.db, impl.TrueVariables(model))
	}
	return j, true
}

// plainCertainty decides by the class of the query.
func plainCertainty(q question) (impl.Justification, bool) {
	class := plainClass(plainAttacks(schemaQuery{q.db.Relations, q.query}))
	j, ok := plainDecision(q, class)
	if !ok && class == impl.ClassFixpoint {
		return plainDecision(q, impl.ClassConp)
	}
	return j, ok
}

// closedQuestions returns the questions without their free variables, and some with them.
func closedQuestions(facts int) []question {
	var closed []question
	for i, q := range questionsUpTo(facts) {
		if len(q.query.Free) > 0 && i%3 > 0 {
			q.query.Free = nil
		}
		closed = append(closed, q)
	}
	return closed
}

func TestDecideBy(t *testing.T) {
	counts := map[[2]any]int{}
	for _, q := range closedQuestions(10) {
		q = q.roomy()
		for _, method := range []int{math.MinInt, -1, 0, 1, 2, 3, 4, math.MaxInt} {
			want, wantOK := plainDecision(q, method)
			check := watch(t, q.db, q.query)
			got, ok := impl.DecideBy(q.db, q.query, method)
			again, _ := impl.DecideBy(q.db, q.query, method)
			check(got, again)
			if ok != wantOK || !sameJustification(got, want) || !sameJustification(again, want) {
				t.Errorf("%v: by method %d: %v, %v, want %v, %v", q, method, got, ok, want, wantOK)
			}
			if ok && (got.Certain != isPlainCertain(q) || !plainlyJustified(q, got) || !impl.IsValidJustification(q.db, q.query, got)) {
				t.Errorf("%v: by method %d: %v", q, method, got)
			}
			if ok {
				counts[[2]any{method, got.Certain}]++
			}
		}
	}
	for method := 1; method <= 3; method++ {
		if counts[[2]any{method, true}] < 50 || counts[[2]any{method, false}] < 50 {
			t.Error(counts)
		}
	}
}

func TestDecideCertainty(t *testing.T) {
	counts := map[int]int{}
	for _, q := range append(closedQuestions(10), namedQuestions()...) {
		q = q.roomy()
		want, wantOK := plainCertainty(q)
		check := watch(t, q.db, q.query)
		got, ok := impl.DecideCertainty(q.db, q.query)
		again, _ := impl.DecideCertainty(q.db, q.query)
		check(got, again)
		if ok != wantOK || !sameJustification(got, want) || !sameJustification(again, want) {
			t.Errorf("%v: %v, %v, want %v, %v", q, got, ok, want, wantOK)
		}
		if ok != (len(q.query.Free) == 0) || ok && (got.Certain != isPlainCertain(q) || !impl.IsValidJustification(q.db, q.query, got)) {
			t.Errorf("%v: %v, %v", q, got, ok)
		}
		if ok {
			counts[got.Method]++
		}
	}
	for method := 1; method <= 3; method++ {
		if counts[method] < 10 {
			t.Errorf("method %d is used %d times", method, counts[method])
		}
	}
}

// justificationChanges returns justifications that differ from the given one in one place.
func justificationChanges(j impl.Justification, others []impl.Justification) []impl.Justification {
	var changes []impl.Justification
	add := func(change func(j *impl.Justification)) {
		changed := cloned(j)
		change(&changed)
		changes = append(changes, changed)
	}
	add(func(j *impl.Justification) { j.Certain = !j.Certain })
	for _, method := range []int{math.MinInt, -1, 0, 1, 2, 3, 4, math.MaxInt} {
		add(func(j *impl.Justification) { j.Method = method })
		add(func(j *impl.Justification) { j.Method, j.Certain = method, !j.Certain })
		add(func(j *impl.Justification) {
			j.Method, j.Repair, j.Rewriting, j.Derivation, j.Proof = method, nil, nil, nil, nil
		})
	}
	for _, other := range others {
		other = cloned(other)
		add(func(j *impl.Justification) { j.Repair = other.Repair })
		add(func(j *impl.Justification) { j.Rewriting = other.Rewriting })
		add(func(j *impl.Justification) { j.Derivation = other.Derivation })
		add(func(j *impl.Justification) { j.Proof = other.Proof })
	}
	for i := range j.Repair {
		add(func(j *impl.Justification) { j.Repair = slices.Delete(j.Repair, i, i+1) })
		for _, f := range []int{-1, j.Repair[i] - 1, j.Repair[i] + 1, math.MaxInt} {
			add(func(j *impl.Justification) { j.Repair[i] = f })
		}
	}
	for i := range j.Rewriting {
		add(func(j *impl.Justification) { j.Rewriting = slices.Delete(j.Rewriting, i, i+1) })
		add(func(j *impl.Justification) { j.Rewriting[i], j.Rewriting[0] = j.Rewriting[0], j.Rewriting[i] })
		add(func(j *impl.Justification) { j.Rewriting[i].Existential = append(j.Rewriting[i].Existential, 0) })
		add(func(j *impl.Justification) { j.Rewriting[i].Universal = nil })
		add(func(j *impl.Justification) { j.Rewriting[i].Existential = nil })
		add(func(j *impl.Justification) { j.Rewriting[i].Atom.Terms[0] = 1 })
		add(func(j *impl.Justification) { j.Rewriting[i].Atom.Relation = 1 - j.Rewriting[i].Atom.Relation })
	}
	for i := range min(len(j.Derivation), 6) {
		add(func(j *impl.Justification) { j.Derivation = slices.Delete(j.Derivation, i, i+1) })
		add(func(j *impl.Justification) { j.Derivation[i].Block++ })
		add(func(j *impl.Justification) { j.Derivation = j.Derivation[:i] })
	}
	for i := range j.Proof {
		add(func(j *impl.Justification) { j.Proof = slices.Delete(j.Proof, i, i+1) })
		add(func(j *impl.Justification) { j.Proof = append(j.Proof, []int{i + 1}) })
		add(func(j *impl.Justification) { j.Proof[i] = append(j.Proof[i], 99) })
	}
	return changes
}

func TestChangedJustifications(t *testing.T) {
	counts := map[bool]int{}
	for number, q := range closedQuestions(7) {
		q = q.roomy()
		rewriting, _ := impl.Rewriting(q.db.Relations, q.query)
		others := []impl.Justification{{}, {Proof: [][]int{{}}, Repair: []int{0}, Derivation: []impl.DerivationStep{{Block: -1}}, Rewriting: rewriting}}
		for method := 1; method <= 3; method++ {
			j, _ := impl.DecideBy(q.db, q.query, method)
			others = append(others, j)
		}
		isCertain := isPlainCertain(q)
		for _, j := range others[2:] {
			for i, changed := range justificationChanges(j, others) {
				if (i+number)%2 > 0 {
					continue
				}
				changed = roomy(changed)
				want := plainlyJustified(q, changed)
				check := watch(t, q.db, q.query, changed)
				got := impl.IsValidJustification(q.db, q.query, changed)
				check()
				if got != want {
					t.Errorf("%v: %v is valid: %v", q, changed, got)
				}
				if got && changed.Certain != isCertain {
					t.Errorf("%v: %v is valid, but false", q, changed)
				}
				counts[got]++
			}
		}
	}
	if counts[true] < 500 || counts[false] < 500 {
		t.Error(counts)
	}
}

func TestJustificationThatStatesSomethingFalse(t *testing.T) {
	for _, q := range closedQuestions(9) {
		isCertain := isPlainCertain(q)
		for method := 1; method <= 3; method++ {
			j, ok := impl.DecideBy(q.db, q.query, method)
			if !ok {
				continue
			}
			j.Certain = !isCertain
			j.Rewriting, _ = impl.Rewriting(q.db.Relations, q.query)
			j.Repair, _ = impl.NthRepair(q.db, 0)
			for ok := true; ok; j.Repair, ok = impl.NextRepair(q.db, j.Repair) {
				if impl.IsValidJustification(q.db, q.query, j) {
					t.Errorf("%v: %v is valid", q, j)
				}
			}
		}
	}
}

// TestJustificationOfAnotherMethod has evidence for one method only.
func TestJustificationOfAnotherMethod(t *testing.T) {
	q := ask("r1/2 s1/2:r0|0 r0|1 s0|5 s1|5 s1|6", "?rx|y sy|z")
	for method := 1; method <= 3; method++ {
		j, ok := impl.DecideBy(q.db, q.query, method)
		if !ok || !j.Certain || j.Method != method {
			t.Fatalf("by method %d: %v, %v", method, j, ok)
		}
		for _, other := range []int{math.MinInt, -1, 0, 1, 2, 3, 4, math.MaxInt} {
			changed := cloned(j)
			changed.Method = other
			if got := impl.IsValidJustification(q.db, q.query, changed); got != (other == method) {
				t.Errorf("evidence for method %d as one of method %d: %v", method, other, got)
			}
		}
	}
	hard := ask("r1/2 s1/2:r0|0 r0|1 s0|5 s1|5 s1|6", "?rx|y sy|5")
	for _, method := range []int{-1, 0, 1, 2, 3, 4} {
		j := impl.Justification{Method: method, Repair: []int{1, 2, 4}}
		if got := impl.IsValidJustification(hard.db, hard.query, j); got != (method >= 1 && method <= 3) {
			t.Errorf("a falsifying repair by method %d: %v", method, got)
		}
		if got := impl.FormatJustification(hard.db, j); got != "no r0|1 s0|5 s1|6" {
			t.Errorf("a falsifying repair by method %d: %s", method, got)
		}
	}
	cyclic := ask("r1/2 s1/2:r0|0 s0|0", "?rx|y sy|x")
	if !impl.IsCertain(cyclic.db, cyclic.query) || impl.IsValidJustification(cyclic.db, cyclic.query, impl.Justification{Method: 1, Certain: true}) {
		t.Error("a rewriting without steps justifies a query that has none")
	}
}

func TestDecideExamples(t *testing.T) {
	for _, c := range []struct{ db, query, want string }{
		{"r1/2 s1/2:r0|0 r0|1 s0|5 s1|5 s1|6", "?rx|y sy|z", "yes Ex Ay rx|y E Az sy|z"},
		{"r1/2 s1/2:r0|0 r0|1 s0|5 s1|5 s1|6", "?rx|y sy|5", "no r0|1 s0|5 s1|6"},
		{"r1/2 s1/2:r0|0 s0|0", "?rx|y sy|x", "yes {r0|0 s0|0} {r0|0}by1 {s0|0}by0 {}by0"},
		{"r1/2 s1/2:r0|0 r0|1 s0|0", "?rx|y sy|x", "no r0|1 s0|0"},
		{"r1/2 s1/2:r0|0 s1|0", "?rx|y sz|y", "yes ()"},
		{"r1/2 s1/2:r0|0 r0|1 s0|0 s0|1", "?rx|y sz|y", "no r0|0 s0|1"},
		{"r1/2 s1/2:r0|0 r0|1 s0|0 s1|1", "?rx|y sz|y", "yes ()"},
		{"r1/2 s1/2:r0|0 r0|1 r1|2 r1|3 s0|0 s0|2 s1|0 s1|3 s2|1 s2|2 s3|1 s3|3", "?rx|y sz|y", "yes (-1)(1)()"},
		{"r1/2 s1/2:", "?rx|y", "no "},
	} {
		q := ask(c.db, c.query)
		j, ok := impl.DecideCertainty(q.db, q.query)
		if got := impl.FormatJustification(q.db, j); !ok || got != c.want || !impl.IsValidJustification(q.db, q.query, j) {
			t.Errorf("%v: %q, want %q", q, got, c.want)
		}
	}
}

// justificationText formats without the program.
func justificationText(db impl.Database, j impl.Justification) string {
	switch {
	case !j.Certain:
		var facts []string
		for i, f := range j.Repair {
			if f < 0 || f >= len(db.Facts) || i > 0 && j.Repair[i-1] >= f {
				return "no "
			}
			facts = append(facts, factText(db.Relations, db.Facts[f]))
		}
		return "no " + strings.Join(facts, " ")
	case j.Method == 1:
		return "yes " + rewritingText(db.Relations, j.Rewriting)
	case j.Method == 2:
		return "yes " + newJudge(question{db: db}).text(j.Derivation)
	case j.Method == 3:
		text := "yes "
		for _, clause := range j.Proof {
			text += plainClauseText(clause)
		}
		return text
	}
	return ""
}

func TestFormatJustification(t *testing.T) {
	for _, q := range closedQuestions(8) {
		db := roomy(q.db)
		for method := 1; method <= 3; method++ {
			j, _ := impl.DecideBy(q.db, q.query, method)
			for _, isCertain := range []bool{false, true} {
				for _, method := range []int{math.MinInt, -1, 0, 1, 2, 3, 4, math.MaxInt} {
					changed := roomy(j)
					changed.Certain, changed.Method = isCertain, method
					check := watch(t, db, changed)
					got := impl.FormatJustification(db, changed)
					check()
					if want := justificationText(db, changed); got != want {
						t.Errorf("%v: %v is %q, want %q", q, changed, got, want)
					}
				}
			}
		}
	}
	db := database("r1/2:r0|0 r0|1")
	for _, repair := range [][]int{nil, {0}, {0, 1}, {1, 0}, {-1}, {2}, {math.MaxInt}} {
		j := impl.Justification{Method: 7, Repair: repair}
		if got, want := impl.FormatJustification(db, j), justificationText(db, j); got != want {
			t.Errorf("the repair %v: %q, want %q", repair, got, want)
		}
	}
	invalidStep := []impl.RewritingStep{step(atom(5, 0), nil, nil)}
	if got := impl.FormatJustification(db, impl.Justification{Method: 1, Certain: true, Rewriting: invalidStep}); got != "yes " {
		t.Errorf("an invalid rewriting: %q", got)
	}
	for _, db := range invalidDatabases() {
		for _, j := range []impl.Justification{
			{Repair: []int{0}}, {Method: 1, Repair: []int{0}}, {Method: 2, Certain: true, Derivation: []impl.DerivationStep{{Block: 3}}}, {Method: 4, Certain: true},
			{Method: 3, Certain: true, Proof: [][]int{{1, -2}, {}}},
		} {
			want := map[int]string{0: "no ", 1: "no ", 2: "yes ", 3: "yes (1 -2)()", 4: ""}[j.Method]
			if got := impl.FormatJustification(db, j); got != want {
				t.Errorf("%v: %v is %q, want %q", db, j, got, want)
			}
		}
	}
}

func TestDecisionsOfQuestionsWithFreeVariables(t *testing.T) {
	for _, text := range []string{"x?rx|y", "xy?rx|y", "y?rx|y sy|z", "x?rx|y sy|x", "z?rx|y sz|y"} {
		q := ask("r1/2 s1/2:r0|0 r0|1 s0|0 s1|0", text)
		if j, ok := impl.DecideCertainty(q.db, q.query); ok || !isZeroJustification(j) {
			t.Errorf("%v: %v, %v", q, j, ok)
		}
		for _, method := range hostileInts {
			if j, ok := impl.DecideBy(q.db, q.query, method); ok || !isZeroJustification(j) {
				t.Errorf("%v: by method %d: %v, %v", q, method, j, ok)
			}
		}
		closed := q
		closed.query.Free = nil
		for method := 1; method <= 3; method++ {
			j, ok := impl.DecideBy(closed.db, closed.query, method)
			if ok && (!impl.IsValidJustification(q.db, closed.query, j) || impl.IsValidJustification(q.db, q.query, j)) {
				t.Errorf("%v: %v", q, j)
			}
		}
	}
}

func TestDecisionsOfUnsuitableQuestions(t *testing.T) {
	justifications := []impl.Justification{
		{}, {Method: 1}, {Method: 1, Certain: true}, {Method: 2, Certain: true, Derivation: []impl.DerivationStep{{Block: -1}}},
		{Method: 3, Certain: true, Proof: [][]int{{}}}, {Method: 3, Repair: []int{0}}, {Method: 2, Repair: []int{0, 2, 3}},
	}
	for _, q := range unsuitableQuestions() {
		q = q.roomy()
		check := watch(t, q.db, q.query)
		if j, ok := impl.DecideCertainty(q.db, q.query); ok || !isZeroJustification(j) {
			t.Errorf("%v, %v: %v, %v", q.db, q.query, j, ok)
		}
		for method := range 5 {
			if j, ok := impl.DecideBy(q.db, q.query, method); ok || !isZeroJustification(j) {
				t.Errorf("%v, %v: by method %d: %v, %v", q.db, q.query, method, j, ok)
			}
		}
		for _, j := range justifications {
			if impl.IsValidJustification(q.db, q.query, j) {
				t.Errorf("%v, %v: %v is valid", q.db, q.query, j)
			}
		}
		check()
	}
}

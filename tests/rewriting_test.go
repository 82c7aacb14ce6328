package tests

import (
	"math"
	"math/rand"
	"slices"
	"strings"
	"testing"

	"loop.example/g01918/impl"
)

func step(a impl.Atom, existential, universal []int) impl.RewritingStep {
	return impl.RewritingStep{Atom: a, Existential: existential, Universal: universal}
}

func sameSteps(a, b []impl.RewritingStep) bool {
	return slices.EqualFunc(a, b, func(a, b impl.RewritingStep) bool {
		return sameAtom(a.Atom, b.Atom) && slices.Equal(a.Existential, b.Existential) && slices.Equal(a.Universal, b.Universal)
	})
}

// plainRewriting follows the document, without the program.
func plainRewriting(q schemaQuery) ([]impl.RewritingStep, bool) {
	if plainClass(plainAttacks(q)) != impl.ClassFirstOrder {
		return nil, false
	}
	var steps []impl.RewritingStep
	rest := schemaQuery{q.relations, cloned(q.query)}
	for len(rest.query.Atoms) > 0 {
		next := plainUnattacked(rest)[0]
		a := rest.query.Atoms[next]
		s := impl.RewritingStep{Atom: a}
		for v := range 4 {
			switch {
			case slices.Contains(rest.query.Free, v) || !slices.Contains(a.Terms, v):
				continue
			case slices.Contains(keyTerms(q.relations, a), v):
				s.Existential = append(s.Existential, v)
			default:
				s.Universal = append(s.Universal, v)
			}
			rest.query.Free = append(rest.query.Free, v)
		}
		steps = append(steps, s)
		rest.query.Atoms = slices.Delete(rest.query.Atoms, next, next+1)
	}
	return steps, true
}

func TestRewriting(t *testing.T) {
	lengths := map[int]int{}
	for _, q := range schemaQueries() {
		q.relations, q.query = roomy(q.relations), roomy(q.query)
		want, wantOK := plainRewriting(q)
		check := watch(t, q.relations, q.query)
		got, ok := impl.Rewriting(q.relations, q.query)
		again, _ := impl.Rewriting(q.relations, q.query)
		check(got, again)
		if ok != wantOK || !sameSteps(got, want) || !sameSteps(again, want) {
			t.Errorf("%v: %v, %v, want %v, %v", q, got, ok, want, wantOK)
		}
		if ok != (impl.Classify(q.relations, q.query) == impl.ClassFirstOrder) || ok && !impl.IsValidRewriting(q.relations, got) {
			t.Errorf("%v: %v, %v", q, got, ok)
		}
		lengths[len(got)]++
	}
	for length := range 4 {
		if lengths[length] < 50 {
			t.Errorf("%d steps occur %d times", length, lengths[length])
		}
	}
}

func TestRewritingHasOneStepPerAtom(t *testing.T) {
	for _, q := range schemaQueries() {
		steps, ok := impl.Rewriting(q.relations, q.query)
		if !ok {
			continue
		}
		rest := slices.Clone(q.query.Atoms)
		for _, s := range steps {
			i := slices.IndexFunc(rest, func(a impl.Atom) bool { return sameAtom(a, s.Atom) })
			if i < 0 {
				t.Fatalf("%v: %v is no atom, or the second one", q, s.Atom)
			}
			rest = slices.Delete(rest, i, i+1)
		}
		if len(rest) > 0 {
			t.Errorf("%v: no step for %v", q, rest)
		}
	}
}

func TestRewritingQuantifiesOnceAndBeforeUse(t *testing.T) {
	for _, q := range schemaQueries() {
		steps, ok := impl.Rewriting(q.relations, q.query)
		known := slices.Clone(q.query.Free)
		for _, s := range steps {
			for _, v := range slices.Concat(s.Existential, s.Universal) {
				if slices.Contains(known, v) {
					t.Errorf("%v: variable %d is quantified again or free: %v", q, v, steps)
				}
				known = append(known, v)
			}
			if !holdsVariables(known, s.Atom.Terms) {
				t.Errorf("%v: %v has a variable that is not quantified: %v", q, s.Atom, steps)
			}
		}
		slices.Sort(known)
		if ok && !slices.Equal(known, usedVariables(q.query)) {
			t.Errorf("%v: %v are quantified or free", q, known)
		}
	}
}

func TestRewritingExamples(t *testing.T) {
	for _, c := range []struct{ relations, query, want string }{
		{"r1/2 s1/2", "?rx|y sy|z", "Ex Ay rx|y E Az sy|z"},
		{"r1/2 s1/2", "?sy|z rx|y", "Ex Ay rx|y E Az sy|z"},
		{"r1/2 s1/2", "x?rx|y sy|x", "E Ay rx|y E A sy|x"},
		{"r1/2 s1/2", "y?rx|y sz|y", "Ex A rx|y Ez A sz|y"},
		{"r1/2", "?rx|x", "Ex A rx|x"},
		{"r1/2", "?r1|2", "E A r1|2"},
		{"r2/3", "?ry1|x", "Ey Ax ry1|x"},
		{"r0/2", "?r|xy", "E Axy r|xy"},
		{"r2/2", "?rxy", "Exy A rxy"},
		{"r2/3 s1/2", "?sx|w ryz|x", "Eyz Ax ryz|x E Aw sx|w"},
		{"r1/2 s1/2", "?rx|y sy|x", ""},
		{"r1/2 s1/2", "?rx|y sz|y", ""},
	} {
		relations := schema(c.relations)
		steps, ok := impl.Rewriting(relations, query(relations, c.query))
		if got := impl.FormatRewriting(relations, steps); got != c.want || ok != (c.want != "") {
			t.Errorf("%s: %q, %v, want %q", c.query, got, ok, c.want)
		}
	}
}

func TestConstantInTheKey(t *testing.T) {
	const db = "r1/2 s1/2 t2/3:r0|0 r0|1 r1|2 s0|5 s1|5 s1|6 s2|2 t01|0 t01|1 t11|0"
	for _, c := range []struct {
		query, formula string
		certain        bool
	}{
		{"?r0|x", "E Ax r0|x", true}, {"?r0|0", "E A r0|0", false}, {"?r1|2", "E A r1|2", true}, {"?r2|x", "E Ax r2|x", false},
		{"?r0|x sx|y", "E Ax r0|x E Ay sx|y", true}, {"?r0|x sx|5", "E Ax r0|x E A sx|5", false}, {"?r1|x sx|x", "E Ax r1|x E A sx|x", true},
		{"?s1|x", "E Ax s1|x", true}, {"?s1|x rx|y", "E Ax s1|x E Ay rx|y", false}, {"?tx1|y", "Ex Ay tx1|y", true}, {"?tx1|0", "Ex A tx1|0", true},
		{"?t0x|y", "Ex Ay t0x|y", true}, {"?t0x|0", "Ex A t0x|0", false}, {"?t0x|x", "Ex A t0x|x", false}, {"?txx|y", "Ex Ay txx|y", true},
	} {
		q := ask(db, c.query)
		steps, ok := impl.Rewriting(q.db.Relations, q.query)
		if got := impl.FormatRewriting(q.db.Relations, steps); got != c.formula || !ok {
			t.Errorf("%v: %s, want %s", q, got, c.formula)
		}
		if got, ok := impl.CertainByRewriting(q.db, q.query); got != c.certain || !ok {
			t.Errorf("%v: %v, %v, want %v", q, got, ok, c.certain)
		}
	}
}

// plainTruth evaluates a valid rewriting with a map of values, without the program.
func plainTruth(db impl.Database, steps []impl.RewritingStep, values map[int]int) bool {
	if len(steps) == 0 {
		return true
	}
	a := steps[0].Atom
	keyLength := db.Relations[a.Relation].KeyLength
	for _, block := range blocksByKey(db) {
		first := db.Facts[block[0]]
		if first.Relation != a.Relation {
			continue
		}
		withKey, isTrue := agree(a.Terms[:keyLength], first.Values, values)
		for _, i := range block {
			if isTrue {
				withFact, ok := agree(a.Terms, db.Facts[i].Values, withKey)
				isTrue = ok && plainTruth(db, steps[1:], withFact)
			}
		}
		if isTrue {
			return true
		}
	}
	return false
}

func agree(terms []int, row []int, values map[int]int) (map[int]int, bool) {
	extended := map[int]int{}
	for v, value := range values {
		extended[v] = value
	}
	for i, term := range terms {
		value, ok := extended[term]
		switch {
		case term < 0 && -1-term != row[i] || term >= 0 && ok && value != row[i]:
			return nil, false
		case term >= 0:
			extended[term] = row[i]
		}
	}
	return extended, true
}

func knownValues(values []int) map[int]int {
	known := map[int]int{}
	for v, value := range values {
		if value >= 0 {
			known[v] = value
		}
	}
	return known
}

// randomRewriting returns a valid rewriting, in which a relation may occur twice and a variable may not be quantified.
func randomRewriting(random *rand.Rand, relations []impl.Relation) []impl.RewritingStep {
	var steps []impl.RewritingStep
	for range random.Intn(4) {
		a := atom(random.Intn(len(relations)))
		for range relations[a.Relation].Arity {
			a.Terms = append(a.Terms, []int{-10, -2, -1, 0, 0, 1, 1, 2, 3}[random.Intn(9)])
		}
		isVariable := func(term int) bool { return term >= 0 && random.Intn(3) > 0 }
		s := impl.RewritingStep{Atom: a}
		for _, term := range keyTerms(relations, a) {
			if isVariable(term) {
				s.Existential = append(s.Existential, term)
			}
		}
		for _, term := range a.Terms {
			if isVariable(term) {
				s.Universal = append(s.Universal, term)
			}
		}
		steps = append(steps, s)
	}
	return steps
}

func rewritingText(relations []impl.Relation, steps []impl.RewritingStep) string {
	var parts []string
	for _, s := range steps {
		q := impl.Query{Atoms: []impl.Atom{s.Atom}}
		text := "E"
		for _, v := range s.Existential {
			text += termTexts[v]
		}
		text += " A"
		for _, v := range s.Universal {
			text += termTexts[v]
		}
		parts = append(parts, text+" "+queryText(relations, q)[1:])
	}
	return strings.Join(parts, " ")
}

func TestEvaluateAndFormatRewriting(t *testing.T) {
	random := rand.New(rand.NewSource(17))
	counts := map[bool]int{}
	for _, q := range questions() {
		db := roomy(q.db)
		for range 5 {
			steps := roomy(randomRewriting(random, db.Relations))
			var values []int
			for range random.Intn(6) {
				values = append(values, []int{math.MinInt, -2, -1, -1, 0, 1, 2, 10}[random.Intn(8)])
			}
			values = roomy(values)
			check := watch(t, db, steps, values)
			got, isValid := impl.EvaluateRewriting(db, steps, values), impl.IsValidRewriting(db.Relations, steps)
			text := impl.FormatRewriting(db.Relations, steps)
			check()
			want := len(values) <= 4 && plainTruth(db, steps, knownValues(values))
			if got != want || !isValid {
				t.Errorf("%s: %v with %v is %v, want %v", databaseText(db), steps, values, got, want)
			}
			if wantText := rewritingText(db.Relations, steps); text != wantText {
				t.Errorf("%v: %q, want %q", steps, text, wantText)
			}
			counts[got]++
		}
	}
	if counts[true] < 300 || counts[false] < 300 {
		t.Error(counts)
	}
}

func TestValuesOfARewriting(t *testing.T) {
	db := database("r1/2 s1/2:r0|0 r0|1 r2|7 s0|5 s1|5 s1|6 s7|1 s7|2")
	steps := []impl.RewritingStep{step(atom(0, 0, 1), []int{0}, []int{1}), step(atom(1, 1, 2), nil, []int{2})}
	for _, c := range []struct {
		values []int
		want   bool
	}{
		{nil, true}, {[]int{0}, true}, {[]int{1}, false}, {[]int{2}, true}, {[]int{-1}, true}, {[]int{math.MinInt, math.MinInt}, true},
		{[]int{0, 0}, false}, {[]int{2, 7}, true}, {[]int{-1, 7}, true}, {[]int{-1, -1, 5}, false}, {[]int{-1, -1, 1}, false}, {[]int{0, -1, 5}, false},
		{[]int{10}, false}, {[]int{math.MaxInt}, false}, {[]int{0, -1, -1, 99}, true}, {[]int{0, -1, -1, -1, -1}, false}, {[]int{-1, -1, -1, -1}, true},
	} {
		if got := impl.EvaluateRewriting(db, steps, c.values); got != c.want {
			t.Errorf("with %v: %v", c.values, got)
		}
	}
	if impl.EvaluateRewriting(db, nil, []int{0, 0, 0, 0, 0}) || !impl.EvaluateRewriting(db, nil, []int{99, 99, 99, 99}) {
		t.Error("without steps only the number of values counts")
	}
}

func isPlainRewriting(relations []impl.Relation, steps []impl.RewritingStep) bool {
	for _, s := range steps {
		if !slices.ContainsFunc([]int{0, 1, 2, 3}, func(i int) bool { return s.Atom.Relation == i && i < len(relations) }) {
			return false
		}
		if len(s.Atom.Terms) != relations[s.Atom.Relation].Arity || slices.Max(s.Atom.Terms) > 3 || slices.Min(s.Atom.Terms) < -10 {
			return false
		}
		if slices.Min(append(s.Existential, 0)) < 0 || slices.Min(append(s.Universal, 0)) < 0 {
			return false
		}
		if !isSubset(s.Existential, keyTerms(relations, s.Atom)) || !isSubset(s.Universal, s.Atom.Terms) {
			return false
		}
	}
	return len(steps) <= 3
}

// rewritingChanges each change a copy of a rewriting of three steps.
func rewritingChanges() []func(*[]impl.RewritingStep) {
	changes := []func(*[]impl.RewritingStep){
		func(steps *[]impl.RewritingStep) { *steps = append(*steps, cloned((*steps)[0])) },
		func(steps *[]impl.RewritingStep) { *steps = (*steps)[:2] },
		func(steps *[]impl.RewritingStep) { *steps = nil },
		func(steps *[]impl.RewritingStep) { (*steps)[1] = cloned((*steps)[0]) },
	}
	for i := range 3 {
		add := func(change func(s *impl.RewritingStep)) {
			changes = append(changes, func(steps *[]impl.RewritingStep) { change(&(*steps)[i]) })
		}
		add(func(s *impl.RewritingStep) { s.Existential, s.Universal = nil, nil })
		add(func(s *impl.RewritingStep) { s.Existential, s.Universal = s.Universal, s.Existential })
		add(func(s *impl.RewritingStep) { s.Universal = append(s.Universal, s.Universal...) })
		add(func(s *impl.RewritingStep) { s.Atom.Terms = s.Atom.Terms[1:] })
		add(func(s *impl.RewritingStep) { s.Atom.Terms = append(s.Atom.Terms, 0) })
		add(func(s *impl.RewritingStep) { *s = impl.RewritingStep{} })
		for _, n := range hostileInts {
			add(func(s *impl.RewritingStep) { s.Atom.Relation = n })
			add(func(s *impl.RewritingStep) { s.Atom.Terms[0] = n })
			add(func(s *impl.RewritingStep) { s.Atom.Terms[1] = n })
			add(func(s *impl.RewritingStep) { s.Existential = []int{n} })
			add(func(s *impl.RewritingStep) { s.Universal = []int{n} })
			add(func(s *impl.RewritingStep) { s.Existential = append(s.Existential, n) })
		}
	}
	return changes
}

func TestIsValidRewriting(t *testing.T) {
	db := database("r1/2 s1/2 t2/3:r0|0 s0|1 t00|1")
	sample := []impl.RewritingStep{
		step(atom(0, 0, 1), []int{0}, []int{1}), step(atom(1, 1, 2), nil, []int{2}), step(atom(2, 3, -10, 0), []int{3}, []int{0}),
	}
	counts := map[bool]int{}
	for i, change := range append(rewritingChanges(), func(*[]impl.RewritingStep) {}) {
		steps := cloned(sample)
		change(&steps)
		steps = roomy(steps)
		want := isPlainRewriting(db.Relations, steps)
		text, truth := "", false
		if want {
			text, truth = rewritingText(db.Relations, steps), plainTruth(db, steps, nil)
		}
		check := watch(t, db, steps)
		if got := impl.IsValidRewriting(db.Relations, steps); got != want {
			t.Errorf("change %d: IsValidRewriting(%v) = %v", i, steps, got)
		}
		if got := impl.FormatRewriting(db.Relations, steps); got != text {
			t.Errorf("change %d: FormatRewriting(%v) = %q, want %q", i, steps, got, text)
		}
		if got := impl.EvaluateRewriting(db, steps, nil); got != truth {
			t.Errorf("change %d: EvaluateRewriting(%v) = %v", i, steps, got)
		}
		check()
		counts[want]++
	}
	if counts[true] < 20 || counts[false] < 100 {
		t.Error(counts)
	}
}

// TestRewritingsOfInvalidDatabases also has the empty rewriting, which has no step that needs valid relations.
func TestRewritingsOfInvalidDatabases(t *testing.T) {
	one := []impl.RewritingStep{step(atom(0, 0, 1), []int{0}, []int{1})}
	bare := []impl.RewritingStep{step(atom(0, -1, -1), nil, nil)}
	for _, db := range invalidDatabases() {
		for _, steps := range [][]impl.RewritingStep{nil, one, bare} {
			if impl.EvaluateRewriting(db, steps, nil) {
				t.Errorf("%v is true in %v", steps, db)
			}
		}
	}
	for _, relations := range invalidSchemas() {
		if !impl.IsValidRewriting(relations, nil) || impl.IsValidRewriting(relations, one) || impl.IsValidRewriting(relations, bare) {
			t.Errorf("rewritings of %v", relations)
		}
		if impl.FormatRewriting(relations, nil) != "" || impl.FormatRewriting(relations, one) != "" {
			t.Errorf("rewritings of %v are formatted", relations)
		}
	}
	if !impl.EvaluateRewriting(impl.Database{}, nil, nil) || !impl.EvaluateRewriting(database("r1/2:"), nil, nil) || impl.EvaluateRewriting(database("r1/2:"), one, nil) {
		t.Error("empty database")
	}
}

func TestCertainByRewriting(t *testing.T) {
	counts := map[[2]bool]int{}
	for _, q := range questions() {
		q = q.roomy()
		isFirst := plainClass(plainAttacks(schemaQuery{q.db.Relations, q.query})) == impl.ClassFirstOrder
		wantOK := isFirst && len(q.query.Free) == 0
		want := wantOK && isPlainCertain(q)
		check := watch(t, q.db, q.query)
		got, ok := impl.CertainByRewriting(q.db, q.query)
		check()
		if got != want || ok != wantOK {
			t.Errorf("%v: %v, %v, want %v, %v", q, got, ok, want, wantOK)
		}
		if ok && got != impl.IsCertain(q.db, q.query) {
			t.Errorf("%v: CertainByRewriting differs from IsCertain", q)
		}
		counts[[2]bool{got, ok}]++
	}
	if counts[[2]bool{true, true}] < 50 || counts[[2]bool{false, true}] < 50 || counts[[2]bool{false, false}] < 50 {
		t.Error(counts)
	}
}

func TestRewritingsOfUnsuitableQuestions(t *testing.T) {
	for _, q := range unsuitableQuestions() {
		if got, ok := impl.CertainByRewriting(q.db, q.query); got || ok {
			t.Errorf("CertainByRewriting(%v, %v) = %v, %v", q.db, q.query, got, ok)
		}
	}
	for _, q := range invalidQueries() {
		if got, ok := impl.Rewriting(q.relations, q.query); ok || len(got) != 0 {
			t.Errorf("Rewriting(%v, %v) = %v, %v", q.relations, q.query, got, ok)
		}
	}
	q := ask("r1/2:r0|0", "?rx|y")
	q.db.Facts = append(q.db.Facts, q.db.Facts[0])
	if got, ok := impl.CertainByRewriting(q.db, q.query); got || ok {
		t.Error("an invalid database")
	}
}

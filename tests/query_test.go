package tests

import (
	"maps"
	"math"
	"slices"
	"strings"
	"testing"

	"loop.example/g01918/impl"
)

var querySchemas = []string{"r1/2", "r0/1 s1/1", "r0/2", "r2/2", "q0/1 r1/2", "a1/1 b1/1 c0/1 d1/1"}

func atom(relation int, terms ...int) impl.Atom {
	return impl.Atom{Relation: relation, Terms: terms}
}

// isPlainQuery decides validity without the program.
func isPlainQuery(relations []impl.Relation, q impl.Query) bool {
	used := map[int]bool{}
	seen := map[int]bool{}
	if q.VariableCount < 0 || q.VariableCount > 4 || len(q.Atoms) == 0 || len(q.Atoms) > 3 {
		return false
	}
	for _, a := range q.Atoms {
		if a.Relation < 0 || a.Relation >= len(relations) || seen[a.Relation] || len(a.Terms) != relations[a.Relation].Arity {
			return false
		}
		seen[a.Relation] = true
		for _, term := range a.Terms {
			if term < -10 || term >= q.VariableCount {
				return false
			}
			used[max(term, -1)] = true
		}
	}
	for v := range q.VariableCount {
		if !used[v] {
			return false
		}
	}
	for i, v := range q.Free {
		if v < 0 || v >= q.VariableCount || i > 0 && q.Free[i-1] >= v {
			return false
		}
	}
	return true
}

// queryText formats a valid query without the program.
func queryText(relations []impl.Relation, q impl.Query) string {
	var free string
	for _, v := range q.Free {
		free += termTexts[v]
	}
	var atoms []string
	for _, a := range q.Atoms {
		text := relations[a.Relation].Name
		for i, term := range a.Terms {
			if i == relations[a.Relation].KeyLength {
				text += "|"
			}
			text += termTexts[term]
		}
		atoms = append(atoms, text)
	}
	return free + "?" + strings.Join(atoms, " ")
}

// atomLists returns all lists of up to three atoms with different relations, over the given terms.
func atomLists(relations []impl.Relation, terms []int) [][]impl.Atom {
	var all [][]impl.Atom
	last := [][]impl.Atom{nil}
	for range min(3, len(relations)) {
		var next [][]impl.Atom
		for _, atoms := range last {
			for i, r := range relations {
				if slices.ContainsFunc(atoms, func(a impl.Atom) bool { return a.Relation == i }) {
					continue
				}
				for _, row := range rowsOver(terms, r.Arity) {
					next = append(next, append(slices.Clone(atoms), atom(i, row...)))
				}
			}
		}
		all = append(all, next...)
		last = next
	}
	return all
}

func rowsOver(terms []int, length int) [][]int {
	rows := [][]int{nil}
	for range length {
		var longer [][]int
		for _, row := range rows {
			for _, term := range terms {
				longer = append(longer, append(slices.Clone(row), term))
			}
		}
		rows = longer
	}
	return rows
}

// queriesOf returns all valid queries over the given terms by their strings.
func queriesOf(relations []impl.Relation, terms []int) map[string]impl.Query {
	known := map[string]impl.Query{}
	for _, atoms := range atomLists(relations, terms) {
		for count := range 5 {
			for _, free := range subsets(count) {
				q := impl.Query{VariableCount: count, Atoms: atoms, Free: free}
				if isPlainQuery(relations, q) {
					known[queryText(relations, q)] = q
				}
			}
		}
	}
	return known
}

// termsFor leaves out the constants from 1 to 8 where there would be too many queries.
func termsFor(relations []impl.Relation) []int {
	if len(relations) > 2 {
		return []int{-10, -1, 0, 1, 2, 3}
	}
	return []int{-10, -9, -8, -7, -6, -5, -4, -3, -2, -1, 0, 1, 2, 3}
}

// sampleQuery has four variables, two free variables, three atoms and a constant.
func sampleQuery() ([]impl.Relation, impl.Query) {
	return schema("r1/2 s1/2 t2/2"), impl.Query{VariableCount: 4, Atoms: []impl.Atom{atom(0, 0, 1), atom(1, 1, 2), atom(2, -2, 3)}, Free: []int{0, 2}}
}

func sameQuery(a, b impl.Query) bool {
	return a.VariableCount == b.VariableCount && slices.Equal(a.Free, b.Free) && slices.EqualFunc(a.Atoms, b.Atoms, sameAtom)
}

func sameAtom(a, b impl.Atom) bool {
	return a.Relation == b.Relation && slices.Equal(a.Terms, b.Terms)
}

// queryChanges each change a copy of the sample query.
func queryChanges() []func(*impl.Query) {
	changes := []func(*impl.Query){
		func(q *impl.Query) { q.Atoms = q.Atoms[:2] },
		func(q *impl.Query) { q.Atoms = nil },
		func(q *impl.Query) { q.Atoms = append(q.Atoms, atom(0, 0, 1)) },
		func(q *impl.Query) { q.Atoms = append(q.Atoms, atom(3, 0, 1)) },
		func(q *impl.Query) { q.Atoms[1] = q.Atoms[0] },
		func(q *impl.Query) { q.Atoms[0], q.Atoms[2] = q.Atoms[2], q.Atoms[0] },
		func(q *impl.Query) { q.Free = []int{0} },
		func(q *impl.Query) { q.Free = nil },
		func(q *impl.Query) { q.Free = []int{0, 1, 2, 3} },
		func(q *impl.Query) { q.Free = []int{0, 1, 2, 3, 4} },
		func(q *impl.Query) { q.Free = []int{2, 0} },
		func(q *impl.Query) { q.Free = []int{0, 0} },
		func(q *impl.Query) { q.Free = []int{3, 3} },
	}
	for _, n := range hostileInts {
		changes = append(changes,
			func(q *impl.Query) { q.VariableCount = n },
			func(q *impl.Query) { q.Free[0] = n },
			func(q *impl.Query) { q.Free[1] = n })
		for i := range 3 {
			changes = append(changes,
				func(q *impl.Query) { q.Atoms[i].Relation = n },
				func(q *impl.Query) { q.Atoms[i].Terms[0] = n },
				func(q *impl.Query) { q.Atoms[i].Terms[1] = n },
				func(q *impl.Query) { q.Atoms[i].Terms = append(q.Atoms[i].Terms, n) },
				func(q *impl.Query) { q.Atoms[i].Terms = q.Atoms[i].Terms[:1] },
				func(q *impl.Query) { q.Atoms[i].Terms = nil })
		}
	}
	return changes
}

// changedQueries returns the changed copies of the sample query.
func changedQueries() []impl.Query {
	_, sample := sampleQuery()
	var queries []impl.Query
	for _, change := range queryChanges() {
		q := cloned(sample)
		change(&q)
		queries = append(queries, q)
	}
	return queries
}

func TestQueryLimits(t *testing.T) {
	if impl.MaxAtoms != 3 || impl.MaxVars != 4 {
		t.Error(impl.MaxAtoms, impl.MaxVars)
	}
	relations := schema("a3/3 b3/3 c3/3 d3/3")
	full := impl.Query{VariableCount: 4, Atoms: []impl.Atom{atom(3, 0, 1, 2), atom(1, 3, 3, 3), atom(0, -1, -10, 0)}, Free: []int{0, 1, 2, 3}}
	if !impl.IsValidQuery(relations, full) || impl.FormatQuery(relations, full) != "xyzw?dxyz bwww a09x" {
		t.Error("the largest query is refused")
	}
	four := cloned(full)
	four.Atoms = append(four.Atoms, atom(2, 0, 0, 0))
	if impl.IsValidQuery(relations, four) || impl.FormatQuery(relations, four) != "" {
		t.Error("four atoms are accepted")
	}
	five := cloned(full)
	five.VariableCount, five.Atoms[2].Terms[0] = 5, 4
	if impl.IsValidQuery(relations, five) || impl.FormatQuery(relations, five) != "" {
		t.Error("five variables are accepted")
	}
	for _, s := range []string{"?axyz bwww c09x d000", "xyzwx?dxyz bwww", "xyzw?dxyz", "?axyzw"} {
		if q, ok := impl.ParseQuery(relations, s); ok || !sameQuery(q, impl.Query{}) {
			t.Errorf("ParseQuery(%q) = %v", s, q)
		}
	}
}

func TestIsValidQuery(t *testing.T) {
	relations, sample := sampleQuery()
	if !impl.IsValidQuery(relations, sample) || impl.FormatQuery(relations, sample) != "xz?rx|y sy|z t1w" {
		t.Error("the sample query is refused")
	}
	accepted := 0
	for i, q := range changedQueries() {
		q = roomy(q)
		want, text := isPlainQuery(relations, q), ""
		if want {
			text = queryText(relations, q)
			accepted++
		}
		check := watch(t, relations, q)
		if got := impl.IsValidQuery(relations, q); got != want {
			t.Errorf("change %d: IsValidQuery(%v) = %v", i, q, got)
		}
		if got := impl.FormatQuery(relations, q); got != text {
			t.Errorf("change %d: FormatQuery(%v) = %q, want %q", i, q, got, text)
		}
		check()
	}
	if accepted == 0 {
		t.Error("no change keeps the query valid")
	}
	for _, s := range querySchemas[:3] {
		relations := schema(s)
		for _, atoms := range atomLists(relations, []int{-11, -10, -1, 0, 1, 2, 3, 4}) {
			for count := -1; count <= 5; count++ {
				q := impl.Query{VariableCount: count, Atoms: atoms}
				if got := impl.IsValidQuery(relations, q); got != isPlainQuery(relations, q) {
					t.Fatalf("IsValidQuery(%s, %v) = %v", s, q, got)
				}
			}
		}
	}
}

func TestVariableInNoAtom(t *testing.T) {
	relations := schema("r1/2 s1/2")
	for _, q := range []impl.Query{
		{VariableCount: 1, Atoms: []impl.Atom{atom(0, -1, -2)}},
		{VariableCount: 2, Atoms: []impl.Atom{atom(0, 0, 0)}},
		{VariableCount: 2, Atoms: []impl.Atom{atom(0, 1, 1)}},
		{VariableCount: 3, Atoms: []impl.Atom{atom(0, 0, 2)}},
		{VariableCount: 4, Atoms: []impl.Atom{atom(0, 0, 1), atom(1, 3, 1)}},
		{VariableCount: 3, Atoms: []impl.Atom{atom(0, 0, 1), atom(1, 1, 0)}, Free: []int{2}},
	} {
		if impl.IsValidQuery(relations, q) || impl.FormatQuery(relations, q) != "" {
			t.Errorf("%v is accepted", q)
		}
	}
	for _, s := range []string{"?ry|y", "?rx|z", "?rz|y", "x?r1|2", "z?rx|y", "w?rx|y sy|z", "?rw|w", "?ry|x sy|w"} {
		if q, ok := impl.ParseQuery(relations, s); ok || !sameQuery(q, impl.Query{}) {
			t.Errorf("ParseQuery(%q) = %v, %v", s, q, ok)
		}
	}
	for _, s := range []string{"?r1|2", "?rx|x", "x?rx|1", "?ry|x", "?rw|z sy|x"} {
		if _, ok := impl.ParseQuery(relations, s); !ok {
			t.Errorf("ParseQuery(%q) is refused", s)
		}
	}
}

func TestQueriesOfInvalidRelations(t *testing.T) {
	for _, relations := range invalidSchemas() {
		for _, q := range []impl.Query{
			{VariableCount: 2, Atoms: []impl.Atom{atom(0, 0, 1)}},
			{Atoms: []impl.Atom{atom(0, -1, -2)}},
			{Atoms: []impl.Atom{atom(0)}},
			{VariableCount: 4, Atoms: []impl.Atom{atom(0, 0, 1, 2, 3)}},
		} {
			if impl.IsValidQuery(relations, q) || impl.FormatQuery(relations, q) != "" {
				t.Errorf("%v is a query of %v", q, relations)
			}
		}
		for _, s := range []string{"", "?", "?rx|y", "?rxy", "?r1|2", "?r", "?ax|y", "?sx|y", "x?rx|y", "?Rx|y", "?rrx|y", "?x|y"} {
			if q, ok := impl.ParseQuery(relations, s); ok || !sameQuery(q, impl.Query{}) {
				t.Errorf("ParseQuery(%v, %q) = %v, %v", relations, s, q, ok)
			}
		}
	}
	if impl.IsValidQuery(nil, impl.Query{}) || impl.FormatQuery(nil, impl.Query{}) != "" {
		t.Error("the zero query is accepted")
	}
}

func TestAtomVariables(t *testing.T) {
	for _, c := range []struct {
		atom impl.Atom
		want []int
	}{
		{atom(0), nil},
		{atom(0, -1, -10), nil},
		{atom(0, 0), []int{0}},
		{atom(0, 3, 1), []int{1, 3}},
		{atom(0, 2, 2, 2), []int{2}},
		{atom(0, 3, -1, 0), []int{0, 3}},
		{atom(-5, 1, 0, 1), []int{0, 1}},
		{atom(99, 4, 5, 3, -11, math.MaxInt, math.MinInt), []int{3}},
		{atom(0, 3, 2, 1, 0, 3, 2, 1, 0), []int{0, 1, 2, 3}},
	} {
		a := roomy(c.atom)
		check := watch(t, a)
		got, again := impl.AtomVariables(a), impl.AtomVariables(a)
		check(got, again)
		if !slices.Equal(got, c.want) || !slices.Equal(again, c.want) {
			t.Errorf("AtomVariables(%v) = %v, want %v", c.atom, got, c.want)
		}
	}
}

func TestKeyVariables(t *testing.T) {
	relations := roomy(schema("a0/3 b1/3 c2/3 d3/3"))
	a := atom(0, 3, 1, 0)
	for i, want := range [][]int{nil, {3}, {1, 3}, {0, 1, 3}} {
		a.Relation = i
		check := watch(t, relations, a)
		got, again := impl.KeyVariables(relations, a), impl.KeyVariables(relations, a)
		check(got, again)
		if !slices.Equal(got, want) || !slices.Equal(again, want) {
			t.Errorf("key length %d: %v, want %v", i, got, want)
		}
	}
	for _, c := range []struct {
		atom impl.Atom
		want []int
	}{
		{atom(2, 1, 1, 0), []int{1}}, {atom(2, -1, 2, 0), []int{2}}, {atom(2, 4, -11, 0), nil}, {atom(2, 2, 0), []int{0, 2}},
		{atom(2, 0, 1, 2, 3), []int{0, 1}}, {atom(2, 2), nil}, {atom(3, 0, 1), nil}, {atom(1), nil}, {atom(0), nil},
		{atom(-1, 0, 1, 2), nil}, {atom(4, 0, 1, 2), nil}, {atom(math.MaxInt, 0), nil}, {atom(math.MinInt, 0), nil},
	} {
		if got := impl.KeyVariables(relations, c.atom); !slices.Equal(got, c.want) {
			t.Errorf("KeyVariables(%v) = %v, want %v", c.atom, got, c.want)
		}
	}
	if got := impl.KeyVariables(nil, atom(0, 0)); len(got) != 0 {
		t.Error(got)
	}
}

// TestKeyVariablesOfOddRelations has relations that are not valid: only the length of the key matters.
func TestKeyVariablesOfOddRelations(t *testing.T) {
	for keyLength, want := range map[int][]int{
		0: nil, 1: {2}, 2: {0, 2}, 3: {0, 2}, 4: {0, 1, 2}, 5: nil, -1: nil, math.MaxInt: nil, math.MinInt: nil,
	} {
		relations := []impl.Relation{{Name: "!!", Arity: -7, KeyLength: keyLength}, {Name: "!!", KeyLength: keyLength}}
		for i := range relations {
			if got := impl.KeyVariables(relations, atom(i, 2, 0, 2, 1)); !slices.Equal(got, want) {
				t.Errorf("key length %d: %v, want %v", keyLength, got, want)
			}
		}
	}
}

func TestEqualQueries(t *testing.T) {
	_, sample := sampleQuery()
	queries := []impl.Query{sample, {}, {Atoms: []impl.Atom{atom(0)}}, {Free: []int{0}}, {VariableCount: 1}}
	for _, q := range changedQueries() {
		queries = append(queries, roomy(q))
	}
	for _, a := range queries {
		for _, b := range queries {
			if got := impl.EqualQueries(a, b); got != sameQuery(a, b) {
				t.Fatalf("EqualQueries(%v, %v) = %v", a, b, got)
			}
		}
	}
	empty := impl.Query{Atoms: []impl.Atom{}, Free: []int{}}
	if !impl.EqualQueries(impl.Query{}, empty) || !impl.EqualQueries(empty, impl.Query{}) {
		t.Error("nil and empty slices differ")
	}
	if !impl.EqualQueries(impl.Query{Atoms: []impl.Atom{atom(1)}}, impl.Query{Atoms: []impl.Atom{{Relation: 1, Terms: []int{}}}}) {
		t.Error("nil and empty terms differ")
	}
}

func TestParseQueryInverse(t *testing.T) {
	for _, s := range querySchemas {
		relations := roomy(schema(s))
		check := watch(t, relations)
		known := queriesOf(relations, termsFor(relations))
		for text, want := range known {
			if got := impl.FormatQuery(relations, want); got != text || !impl.IsValidQuery(relations, want) {
				t.Fatalf("FormatQuery(%v) = %q, want %q", want, got, text)
			}
			got, ok := impl.ParseQuery(relations, text)
			if !ok || !sameQuery(got, want) || !impl.EqualQueries(got, want) {
				t.Fatalf("ParseQuery(%s, %q) = %v, %v", s, text, got, ok)
			}
		}
		check()
		if len(known) < 20 {
			t.Errorf("%s: only %d queries", s, len(known))
		}
	}
}

func TestParseQueryNewMemory(t *testing.T) {
	relations, sample := sampleQuery()
	check := watch(t, relations)
	got, ok := impl.ParseQuery(relations, "xz?rx|y sy|z t1w")
	again, _ := impl.ParseQuery(relations, "xz?rx|y sy|z t1w")
	check(got, again)
	if !ok || !sameQuery(got, sample) || !sameQuery(again, sample) {
		t.Error(got, ok)
	}
}

func TestParseQueryNothingElse(t *testing.T) {
	for _, s := range querySchemas {
		relations := schema(s)
		known := queriesOf(relations, termsFor(relations))
		texts := stringsOver("?rxy1| ", 6)
		for i, text := range slices.Sorted(maps.Keys(known)) {
			if i%(1+len(known)/500) == 0 {
				texts = append(texts, queryEdits(text)...)
			}
		}
		for _, text := range texts {
			if len(relations) > 2 && strings.ContainsAny(text, "12345678") {
				continue
			}
			want, wantOK := known[text]
			if got, ok := impl.ParseQuery(relations, text); ok != wantOK || !sameQuery(got, want) {
				t.Fatalf("ParseQuery(%s, %q) = %v, %v", s, text, got, ok)
			}
		}
	}
}

// queryEdits returns strings that differ from text by one of the bytes that queries consist of, or are a part of it.
func queryEdits(text string) []string {
	var edits []string
	for i := range len(text) + 1 {
		rest := text[min(i+1, len(text)):]
		for _, b := range []string{"?", "r", "x", "w", "0", "|", " ", "v", "\xff"} {
			edits = append(edits, text[:i]+b+text[i:], text[:i]+b+rest)
		}
		edits = append(edits, text[:i], text[i:], text[:i]+rest)
	}
	return edits
}

func TestParseQueryRefuses(t *testing.T) {
	relations := schema("r1/2 s1/2 t2/2")
	texts := []string{
		"", "?", "?r", "?rxy", "?rx|y rx|y", "zx?rx|y sy|z", "xx?rx|y", "?ry|x sy", "?rx|z", "?vx", "??rx|y", "?rx|y ", "? rx|y", " ?rx|y",
		"?rx|y  sy|z", "rx|y", "x rx|y", "1?r1|x", "?rx|y?", "?txy|", "?|rxy", "?rx||y", "?rx|yz", "?tx|y", "?Rx|y", "?rX|y", "?rx|10",
		"?rx|-1", "?rv|x", "\xff?rx|y", "?rx|\xff", "?\xffx|y", "?r\u0445|y", "?rx|y\n", "xyzwx?rx|y sz|w", "?rx|y sy|z txw r11",
		strings.Repeat("x", 1<<20) + "?rx|y", "?" + strings.Repeat("rx|y ", 1<<18), "?r" + strings.Repeat("x", 1<<20), "?r" + strings.Repeat("|", 1<<20), strings.Repeat("?", 1<<20),
	}
	for _, s := range []string{"?rx|y", "xz?rx|y sy|z t1w", "xyzw?tzw sx|y", "?r1|2"} {
		q, ok := impl.ParseQuery(relations, s)
		if !ok || queryText(relations, q) != s {
			t.Errorf("ParseQuery(%q) = %v, %v", s, q, ok)
		}
		for _, edit := range oneByteEdits(s) {
			got, ok := impl.ParseQuery(relations, edit)
			if ok && (!isPlainQuery(relations, got) || queryText(relations, got) != edit) || !ok && !sameQuery(got, impl.Query{}) {
				t.Fatalf("ParseQuery(%q) = %v, %v", edit, got, ok)
			}
		}
	}
	for _, s := range texts {
		if q, ok := impl.ParseQuery(relations, s); ok || !sameQuery(q, impl.Query{}) {
			t.Errorf("ParseQuery(%.40q) = %v, %v", s, q, ok)
		}
	}
}

func TestRemoveAtom(t *testing.T) {
	_, sample := sampleQuery()
	queries := []impl.Query{sample, {}, {VariableCount: -3, Free: []int{9, 9}}, {Atoms: []impl.Atom{atom(0)}}}
	for _, q := range append(queries, changedQueries()...) {
		q = roomy(q)
		for _, index := range hostileInts {
			want := cloned(q)
			if index >= 0 && index < len(q.Atoms) {
				want.Atoms = slices.Delete(want.Atoms, index, index+1)
			}
			check := watch(t, q)
			got, again := impl.RemoveAtom(q, index), impl.RemoveAtom(q, index)
			check(got, again)
			if !sameQuery(got, want) || !sameQuery(again, want) {
				t.Fatalf("RemoveAtom(%v, %d) = %v, want %v", q, index, got, want)
			}
		}
	}
}

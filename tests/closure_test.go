package tests

import (
	"math"
	"math/rand"
	"slices"
	"testing"

	"loop.example/g01918/impl"
)

// schemaQuery is a query and its relations.
type schemaQuery struct {
	relations []impl.Relation
	query     impl.Query
}

func (q schemaQuery) String() string {
	return databaseText(impl.Database{Relations: q.relations}) + queryText(q.relations, q.query)
}

// schemaQueries returns named and random queries and, for some schemas, all queries or all joins.
func schemaQueries() []schemaQuery {
	var all []schemaQuery
	for _, q := range questions() {
		all = append(all, schemaQuery{q.db.Relations, q.query})
	}
	random := rand.New(rand.NewSource(14))
	for range 500 {
		var relations []impl.Relation
		for _, name := range []string{"r", "s", "t"} {
			arity := 1 + random.Intn(3)
			relations = append(relations, impl.Relation{Name: name, Arity: arity, KeyLength: random.Intn(arity + 1)})
		}
		all = append(all, schemaQuery{relations, randomQuery(random, relations)})
	}
	for _, s := range []string{"r1/2 s1/2", "r0/1 s1/2"} {
		relations := schema(s)
		for _, q := range queriesOf(relations, []int{-1, 0, 1, 2}) {
			all = append(all, schemaQuery{relations, q})
		}
	}
	for _, s := range []string{"r1/2 s1/2 t1/2", "r1/2 s2/2 t1/2", "r1/3 s1/2 t1/2", "r1/2 s1/2 t2/3"} {
		all = append(all, joinsOf(schema(s))...)
	}
	return all
}

// joinsOf returns all queries with an atom of each relation, without constants and free variables, in which a variable
// occurs only after the smaller ones.
func joinsOf(relations []impl.Relation) []schemaQuery {
	var all []schemaQuery
	for _, terms := range growingRows(slotCount(relations), impl.MaxVars) {
		q := impl.Query{VariableCount: slices.Max(terms) + 1}
		for i, r := range relations {
			q.Atoms = append(q.Atoms, atom(i, terms[:r.Arity]...))
			terms = terms[r.Arity:]
		}
		all = append(all, schemaQuery{relations, q})
	}
	return all
}

func slotCount(relations []impl.Relation) int {
	count := 0
	for _, r := range relations {
		count += r.Arity
	}
	return count
}

// growingRows returns the rows of numbers below the limit that are at most one larger than all before them.
func growingRows(length, limit int) [][]int {
	rows := [][]int{nil}
	for range length {
		var longer [][]int
		for _, row := range rows {
			largest := slices.Max(append([]int{-1}, row...))
			for next := range min(largest+2, limit) {
				longer = append(longer, append(slices.Clone(row), next))
			}
		}
		rows = longer
	}
	return rows
}

// invalidQueries have invalid relations or are no query for the relations.
func invalidQueries() []schemaQuery {
	relations, sample := sampleQuery()
	all := []schemaQuery{{}, {relations, impl.Query{}}, {nil, sample}, {schema("r1/2 s1/2"), sample}}
	for _, q := range changedQueries() {
		if !isPlainQuery(relations, q) {
			all = append(all, schemaQuery{relations, q})
		}
	}
	for _, relations := range invalidSchemas() {
		all = append(all,
			schemaQuery{relations, impl.Query{VariableCount: 2, Atoms: []impl.Atom{atom(0, 0, 1)}}},
			schemaQuery{relations, impl.Query{VariableCount: 2, Atoms: []impl.Atom{atom(0, 0, 1), atom(1, 1, 0)}}})
	}
	return all
}

func keyTerms(relations []impl.Relation, a impl.Atom) []int {
	return a.Terms[:relations[a.Relation].KeyLength]
}

// isClosed reports whether each atom but one has all its variables in the set if its key variables are in it.
func isClosed(q schemaQuery, skip int, set []int) bool {
	for i, a := range q.query.Atoms {
		if i == skip || !holdsVariables(set, keyTerms(q.relations, a)) {
			continue
		}
		if !holdsVariables(set, a.Terms) {
			return false
		}
	}
	return true
}

func holdsVariables(set []int, terms []int) bool {
	return !slices.ContainsFunc(terms, func(term int) bool { return term >= 0 && !slices.Contains(set, term) })
}

// smallestClosed looks for the smallest closed set among all sets of variables, without the program.
func smallestClosed(q schemaQuery, skip int, start []int) []int {
	start = slices.DeleteFunc(slices.Concat(q.query.Free, start), func(v int) bool { return v < 0 || v > 3 })
	var smallest []int
	isFound := false
	for _, set := range subsets(4) {
		if isSubset(start, set) && isClosed(q, skip, set) && (!isFound || isSubset(set, smallest)) {
			smallest, isFound = set, true
		}
	}
	return smallest
}

func TestAttributeClosure(t *testing.T) {
	starts := append(subsets(4), []int{3, 1, 1}, []int{4, 0, -1}, []int{-1, -10, -11}, []int{math.MaxInt, 2, math.MinInt, 63, 64, 65})
	for i, q := range schemaQueries() {
		q.relations, q.query = roomy(q.relations), roomy(q.query)
		start := roomy(starts[i%len(starts)])
		for skip := -2; skip <= 3; skip++ {
			check := watch(t, q.relations, q.query, start)
			got := impl.AttributeClosure(q.relations, q.query, skip, start)
			again := impl.AttributeClosure(q.relations, q.query, skip, start)
			check(got, again)
			want := smallestClosed(q, skip, start)
			if !slices.Equal(got, want) || !slices.Equal(again, want) {
				t.Errorf("%v: the closure of %v without atom %d is %v, want %v", q, start, skip, got, want)
			}
		}
	}
}

func TestClosureIsNotLargerWithoutAnAtom(t *testing.T) {
	smaller := 0
	for i, q := range schemaQueries() {
		start := subsets(4)[i%16]
		all := impl.AttributeClosure(q.relations, q.query, -1, start)
		for _, skip := range []int{math.MinInt, -2, len(q.query.Atoms), math.MaxInt} {
			if got := impl.AttributeClosure(q.relations, q.query, skip, start); !slices.Equal(got, all) {
				t.Errorf("%v: atom %d is skipped", q, skip)
			}
		}
		for skip := range q.query.Atoms {
			got := impl.AttributeClosure(q.relations, q.query, skip, start)
			if !isSubset(got, all) || !slices.IsSorted(got) {
				t.Errorf("%v: without atom %d: %v, with it: %v", q, skip, got, all)
			}
			if len(got) < len(all) {
				smaller++
			}
		}
	}
	if smaller == 0 {
		t.Error("no atom is needed")
	}
}

func TestVariablesOfNoAtom(t *testing.T) {
	relations := schema("r1/2")
	q := query(relations, "?rx|y")
	for _, c := range []struct{ start, want []int }{
		{[]int{2}, []int{2}}, {[]int{3, 0}, []int{0, 1, 3}}, {[]int{4}, nil}, {[]int{-1}, nil}, {nil, nil}, {[]int{1}, []int{1}},
	} {
		if got := impl.AttributeClosure(relations, q, -1, c.start); !slices.Equal(got, c.want) {
			t.Errorf("the closure of %v is %v, want %v", c.start, got, c.want)
		}
	}
}

func TestKeyWithoutVariables(t *testing.T) {
	for _, c := range []struct {
		relations, query string
		closure          []int
		keyClosures      [][]int
	}{
		{"r0/2", "?r|xy", []int{0, 1}, [][]int{nil}},
		{"r1/2", "?r1|x", []int{0}, [][]int{nil}},
		{"r1/2 s1/2", "?r1|x sx|y", []int{0, 1}, [][]int{nil, {0}}},
		{"r1/2 s0/1", "?rx|y sx", []int{0, 1}, [][]int{{0}, nil}},
		{"r1/2 s0/1", "?rx|y sy", []int{1}, [][]int{{0, 1}, nil}},
		{"r1/2 s1/2 t1/2", "?r0|x s1|y t2|z", []int{0, 1, 2}, [][]int{{1, 2}, {0, 2}, {0, 1}}},
		{"r2/3", "?r01|x", []int{0}, [][]int{nil}},
		{"r1/1", "?r1", nil, [][]int{nil}},
	} {
		relations := schema(c.relations)
		q := query(relations, c.query)
		if got := impl.AttributeClosure(relations, q, -1, nil); !slices.Equal(got, c.closure) {
			t.Errorf("%s: the closure is %v, want %v", c.query, got, c.closure)
		}
		for i, want := range c.keyClosures {
			if got := impl.KeyClosure(relations, q, i); !slices.Equal(got, want) {
				t.Errorf("%s: the key closure of atom %d is %v, want %v", c.query, i, got, want)
			}
		}
	}
}

func TestKeyClosure(t *testing.T) {
	for _, q := range schemaQueries() {
		q.relations, q.query = roomy(q.relations), roomy(q.query)
		for _, i := range []int{math.MinInt, -1, 0, 1, 2, 3, math.MaxInt} {
			var want []int
			if i >= 0 && i < len(q.query.Atoms) {
				want = smallestClosed(q, i, keyTerms(q.relations, q.query.Atoms[i]))
			}
			check := watch(t, q.relations, q.query)
			got, again := impl.KeyClosure(q.relations, q.query, i), impl.KeyClosure(q.relations, q.query, i)
			check(got, again)
			if !slices.Equal(got, want) || !slices.Equal(again, want) {
				t.Errorf("%v: the key closure of atom %d is %v, want %v", q, i, got, want)
			}
		}
	}
}

func TestDetermines(t *testing.T) {
	lists := append(subsets(4), []int{1, 1, 0}, []int{3, 0, 3}, []int{2, 4}, []int{-1}, []int{0, math.MinInt}, []int{math.MaxInt, 1}, []int{64})
	counts := map[bool]int{}
	for i, q := range schemaQueries() {
		q.relations, q.query = roomy(q.relations), roomy(q.query)
		from := roomy(lists[i%len(lists)])
		closure := smallestClosed(q, -1, from)
		for j := range 6 {
			to := roomy(lists[(i/len(lists)+4*j)%len(lists)])
			check := watch(t, q.relations, q.query, from, to)
			got := impl.Determines(q.relations, q.query, from, to)
			check()
			if got != isSubset(to, closure) {
				t.Errorf("%v: %v determines %v: %v", q, from, to, got)
			}
			counts[got]++
		}
	}
	if counts[true] < 1000 || counts[false] < 1000 {
		t.Error(counts)
	}
}

func TestClosuresOfInvalidQueries(t *testing.T) {
	for _, q := range invalidQueries() {
		for _, i := range []int{-1, 0, 1} {
			if got := impl.AttributeClosure(q.relations, q.query, i, []int{0, 1, 2, 3}); len(got) != 0 {
				t.Errorf("AttributeClosure(%v) = %v", q.query, got)
			}
			if got := impl.KeyClosure(q.relations, q.query, i); len(got) != 0 {
				t.Errorf("KeyClosure(%v) = %v", q.query, got)
			}
		}
		if impl.Determines(q.relations, q.query, nil, nil) || impl.Determines(q.relations, q.query, []int{0}, []int{0}) {
			t.Errorf("Determines(%v)", q.query)
		}
	}
}

func TestBoundVariables(t *testing.T) {
	frees := append(subsets(5), []int{3, 0}, []int{1, 1}, []int{-1, 2}, []int{math.MaxInt, math.MinInt})
	for _, count := range hostileInts {
		for _, free := range frees {
			q := roomy(impl.Query{VariableCount: count, Free: free, Atoms: []impl.Atom{atom(-5, 77)}})
			var want []int
			for v := range 4 {
				if v < count && !slices.Contains(free, v) {
					want = append(want, v)
				}
			}
			check := watch(t, q)
			got, again := impl.BoundVariables(q), impl.BoundVariables(q)
			check(got, again)
			if !slices.Equal(got, want) || !slices.Equal(again, want) {
				t.Errorf("BoundVariables(%v) = %v, want %v", q, got, want)
			}
		}
	}
	for _, q := range schemaQueries() {
		both := slices.Sorted(slices.Values(slices.Concat(impl.BoundVariables(q.query), q.query.Free)))
		if !slices.Equal(both, usedVariables(q.query)) {
			t.Errorf("%v: %v", q, both)
		}
	}
}

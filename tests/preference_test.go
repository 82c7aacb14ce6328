package tests

import (
	"math"
	"math/rand"
	"slices"
	"testing"

	"loop.example/g01918/impl"
)

// preferred is a valid graph with preferences, which need not be valid.
type preferred struct {
	graph
	preferences []impl.ConflictEdge
}

func (p preferred) prefers(a, b int) bool {
	return slices.ContainsFunc(p.preferences, func(e impl.ConflictEdge) bool { return e.A == a && e.B == b })
}

func (p preferred) inConflict(a, b int) bool {
	return slices.Contains(p.edges, edge(a, b)) || slices.Contains(p.edges, edge(b, a))
}

// isValid decides without the program.
func (p preferred) isValid() bool {
	for _, e := range p.preferences {
		if !p.inConflict(e.A, e.B) {
			return false
		}
	}
	for v, reached := range connected(p.n, p.prefers) {
		if reached[v] {
			return false
		}
	}
	return true
}

func (p preferred) undominated(left []int) []int {
	var all []int
	for _, v := range left {
		if !slices.ContainsFunc(left, func(other int) bool { return p.prefers(other, v) }) {
			all = append(all, v)
		}
	}
	return all
}

// after returns what is left when a vertex has been selected.
func (p preferred) after(left []int, selected int) []int {
	return slices.DeleteFunc(slices.Clone(left), func(v int) bool { return v == selected || p.inConflict(v, selected) })
}

func (p preferred) vertices() []int {
	var all []int
	for v := range p.n {
		all = append(all, v)
	}
	return all
}

func (p preferred) greedy() []int {
	var selected []int
	for left := p.vertices(); len(left) > 0; {
		v := p.undominated(left)[0]
		selected, left = append(selected, v), p.after(left, v)
	}
	slices.Sort(selected)
	return selected
}

// greedyAll tries all orders of selection.
func (p preferred) greedyAll(left, selected []int, known [][]int) [][]int {
	if len(left) == 0 {
		if set := slices.Sorted(slices.Values(selected)); !hasRow(known, set) {
			known = append(known, set)
		}
		return known
	}
	for _, v := range p.undominated(left) {
		known = p.greedyAll(p.after(left, v), append(slices.Clone(selected), v), known)
	}
	return known
}

func (p preferred) paretoOptimal(set []int) bool {
	if !p.maximal(set) {
		return false
	}
	for v := range p.n {
		isWorse := func(member int) bool { return !p.inConflict(v, member) || p.prefers(v, member) }
		if !slices.Contains(set, v) && !slices.ContainsFunc(set, func(member int) bool { return !isWorse(member) }) {
			return false
		}
	}
	return true
}

// orientations returns the graph with all choices of a preference, or none, for each edge.
func orientations(g graph) []preferred {
	all := []preferred{{graph: g}}
	for _, e := range g.edges {
		for _, p := range all[:len(all):len(all)] {
			for _, preference := range []impl.ConflictEdge{e, edge(e.B, e.A)} {
				all = append(all, preferred{g, append(slices.Clone(p.preferences), preference)})
			}
		}
	}
	return all
}

// randomPreferences returns preferences in any order, of which some occur twice; the seldom ones make cycles.
func randomPreferences(random *rand.Rand, g graph) preferred {
	p := preferred{graph: g}
	rank := random.Perm(max(g.n, 1))
	density := random.Intn(5)
	for _, e := range g.edges {
		if random.Intn(4) >= density {
			continue
		}
		isForward := rank[e.A] < rank[e.B]
		if random.Intn(12) == 0 {
			isForward = !isForward
		}
		if isForward {
			p.preferences = append(p.preferences, e)
		} else {
			p.preferences = append(p.preferences, edge(e.B, e.A))
		}
		if random.Intn(6) == 0 {
			p.preferences = append(p.preferences, p.preferences[random.Intn(len(p.preferences))])
		}
	}
	random.Shuffle(len(p.preferences), func(i, j int) {
		p.preferences[i], p.preferences[j] = p.preferences[j], p.preferences[i]
	})
	return p
}

// preferences returns all orientations of the graphs with at most four vertices and some larger graphs.
func preferenceCases() []preferred {
	random := rand.New(rand.NewSource(28))
	var cases []preferred
	for i, g := range smallGraphs() {
		if g.n < 5 {
			cases = append(cases, orientations(g)...)
		} else if i%2 == 0 {
			cases = append(cases, randomPreferences(random, g), randomPreferences(random, g))
		}
	}
	for _, n := range []int{6, 7, 7, 8} {
		for density := range 10 {
			g := graph{n: n}
			for _, e := range pairs(n) {
				if random.Intn(10) <= density {
					g.edges = append(g.edges, e)
				}
			}
			cases = append(cases, randomPreferences(random, g), randomPreferences(random, g))
		}
	}
	for _, g := range largeGraphs() {
		cases = append(cases, randomPreferences(random, g))
	}
	return cases
}

func TestIsValidPreference(t *testing.T) {
	counts := map[bool]int{}
	for _, p := range preferenceCases() {
		edges, preferences := roomy(p.edges), roomy(p.preferences)
		check := watch(t, edges, preferences)
		got := impl.IsValidPreference(p.n, edges, preferences)
		check()
		if got != p.isValid() {
			t.Errorf("%v: valid: %v", p, got)
		}
		counts[got]++
	}
	if counts[true] < 500 || counts[false] < 100 {
		t.Error(counts)
	}
}

func TestPreferencesWithoutAnEdge(t *testing.T) {
	edges := []impl.ConflictEdge{edge(0, 1), edge(1, 3)}
	for _, a := range hostileInts {
		for _, b := range hostileInts {
			want := a == 0 && b == 1 || a == 1 && b == 0 || a == 1 && b == 3 || a == 3 && b == 1
			for _, others := range [][]impl.ConflictEdge{nil, {edge(1, 0)}} {
				preferences := append(others, edge(a, b))
				if got := impl.IsValidPreference(4, edges, preferences); got != (want && (len(others) == 0 || a != 0)) {
					t.Errorf("the preferences %v are valid: %v", preferences, got)
				}
			}
		}
	}
}

func TestIsPreferred(t *testing.T) {
	preferences := roomy([]impl.ConflictEdge{edge(1, 0), edge(5, 5), edge(1, 0), edge(math.MinInt, math.MaxInt), edge(0, 14)})
	for _, a := range hostileInts {
		for _, b := range hostileInts {
			want := a == 1 && b == 0 || a == 5 && b == 5 || a == math.MinInt && b == math.MaxInt || a == 0 && b == 14
			check := watch(t, preferences)
			if got := impl.IsPreferred(preferences, a, b); got != want || impl.IsPreferred(nil, a, b) {
				t.Errorf("%d is preferred to %d: %v", a, b, got)
			}
			check()
		}
	}
}

func TestUndominatedFactsAndParetoOptimality(t *testing.T) {
	counts := map[bool]int{}
	for i, p := range preferenceCases() {
		edges, preferences := roomy(p.edges), roomy(p.preferences)
		isValid := p.isValid()
		if p.n > 7 {
			continue
		}
		for k, set := range subsets(p.n) {
			if p.n > 3 && (i+k)%5 > 0 {
				continue
			}
			set = roomy(set)
			var want []int
			if isValid {
				want = p.undominated(set)
			}
			check := watch(t, edges, preferences, set)
			got, again := impl.UndominatedFacts(p.n, edges, preferences, set), impl.UndominatedFacts(p.n, edges, preferences, set)
			isOptimal := impl.IsParetoOptimal(p.n, edges, preferences, set)
			check(got, again)
			if !slices.Equal(got, want) || !slices.Equal(again, want) {
				t.Fatalf("%v: the undominated ones of %v are %v, want %v", p, set, got, want)
			}
			if isOptimal != (isValid && p.paretoOptimal(set)) {
				t.Fatalf("%v: %v is Pareto optimal: %v", p, set, isOptimal)
			}
			if p.maximal(set) {
				counts[isOptimal]++
			}
		}
	}
	if counts[true] < 500 || counts[false] < 500 {
		t.Error(counts)
	}
}

func TestGreedyRepair(t *testing.T) {
	for _, p := range preferenceCases() {
		edges, preferences := roomy(p.edges), roomy(p.preferences)
		var want []int
		if p.isValid() {
			want = p.greedy()
		}
		check := watch(t, edges, preferences)
		got, again := impl.GreedyRepair(p.n, edges, preferences), impl.GreedyRepair(p.n, edges, preferences)
		check(got, again)
		if !slices.Equal(got, want) || !slices.Equal(again, want) {
			t.Errorf("%v: %v, want %v", p, got, want)
		}
	}
}

func TestGreedyRepairs(t *testing.T) {
	several := 0
	for _, p := range preferenceCases() {
		edges, preferences := roomy(p.edges), roomy(p.preferences)
		var want [][]int
		if p.isValid() && p.n <= 7 {
			want = p.greedyAll(p.vertices(), nil, nil)
			slices.SortFunc(want, slices.Compare[[]int])
		}
		check := watch(t, edges, preferences)
		got, again := impl.GreedyRepairs(p.n, edges, preferences), impl.GreedyRepairs(p.n, edges, preferences)
		check(got, again)
		if !equalLists(got, want) || !equalLists(again, want) {
			t.Errorf("%v: %v, want %v", p, got, want)
		}
		if len(want) > 1 && len(p.preferences) > 0 {
			several++
		}
	}
	if several < 100 {
		t.Errorf("only %d cases have several greedy repairs", several)
	}
}

func TestParetoOptimalRepairs(t *testing.T) {
	fewer := 0
	for _, p := range preferenceCases() {
		edges, preferences := roomy(p.edges), roomy(p.preferences)
		isValid := p.isValid()
		all := p.maximalSets()
		want := slices.DeleteFunc(slices.Clone(all), func(set []int) bool { return !isValid || !p.paretoOptimal(set) })
		check := watch(t, edges, preferences)
		got, again := impl.ParetoOptimalRepairs(p.n, edges, preferences), impl.ParetoOptimalRepairs(p.n, edges, preferences)
		check(got, again)
		if !equalLists(got, want) || !equalLists(again, want) {
			t.Errorf("%v: %v, want %v", p, got, want)
		}
		if isValid && len(want) < len(all) {
			fewer++
		}
	}
	if fewer < 500 {
		t.Errorf("the preferences matter only in %d cases", fewer)
	}
}

func TestGreedyRepairsAreMaximalAndParetoOptimal(t *testing.T) {
	for _, p := range preferenceCases() {
		if !p.isValid() {
			continue
		}
		repairs := append(impl.GreedyRepairs(p.n, p.edges, p.preferences), impl.GreedyRepair(p.n, p.edges, p.preferences))
		optimal := impl.ParetoOptimalRepairs(p.n, p.edges, p.preferences)
		for _, repair := range repairs {
			if !impl.IsMaximalIndependent(p.n, p.edges, repair) || !impl.IsParetoOptimal(p.n, p.edges, p.preferences, repair) || !hasRow(optimal, repair) {
				t.Errorf("%v: the greedy repair %v is not maximal or not Pareto optimal", p, repair)
			}
		}
		if p.n <= 7 && !hasRow(repairs[:len(repairs)-1], repairs[len(repairs)-1]) {
			t.Errorf("%v: the first greedy repair is not among %v", p, repairs)
		}
	}
}

func TestWithoutPreferences(t *testing.T) {
	graphs := append(smallGraphs(), graph{6, pairs(6)}, graph{7, pairs(7)}, graph{7, nil}, graph{7, []impl.ConflictEdge{edge(0, 6), edge(2, 3), edge(3, 5)}})
	for _, g := range graphs {
		all := g.maximalSets()
		if got := impl.GreedyRepairs(g.n, g.edges, nil); !equalLists(got, all) {
			t.Errorf("%v: the greedy repairs are %v, want %v", g, got, all)
		}
		if got := impl.ParetoOptimalRepairs(g.n, g.edges, nil); !equalLists(got, all) {
			t.Errorf("%v: the Pareto optimal repairs are %v, want %v", g, got, all)
		}
		if got := impl.GreedyRepair(g.n, g.edges, nil); !slices.Equal(got, all[0]) {
			t.Errorf("%v: the greedy repair is %v, want %v", g, got, all[0])
		}
		if !impl.IsValidPreference(g.n, g.edges, nil) {
			t.Errorf("%v: no preferences are invalid", g)
		}
	}
}

func TestGreedyRepairsUpToSevenVertices(t *testing.T) {
	for n := range 15 {
		var all []int
		for v := range n {
			all = append(all, v)
		}
		got := impl.GreedyRepairs(n, nil, nil)
		if n <= 7 && (len(got) != 1 || !slices.Equal(got[0], all)) || n > 7 && len(got) != 0 {
			t.Errorf("%d vertices: %v", n, got)
		}
		if got := impl.GreedyRepair(n, nil, nil); !slices.Equal(got, all) {
			t.Errorf("%d vertices: %v", n, got)
		}
		if got := impl.ParetoOptimalRepairs(n, nil, nil); len(got) != 1 || !slices.Equal(got[0], all) {
			t.Errorf("%d vertices: %v", n, got)
		}
	}
}

func TestCyclicPreference(t *testing.T) {
	triangle := graph{5, []impl.ConflictEdge{edge(0, 1), edge(0, 2), edge(1, 2), edge(3, 4)}}
	for _, preferences := range [][]impl.ConflictEdge{
		{edge(0, 1), edge(1, 0)}, {edge(0, 1), edge(1, 2), edge(2, 0)}, {edge(1, 0), edge(0, 2), edge(2, 1)}, {edge(4, 3), edge(0, 1), edge(3, 4)},
		{edge(0, 1), edge(0, 2), edge(1, 2), edge(2, 1)}, {edge(0, 0)}, {edge(0, 1), edge(1, 2), edge(2, 0), edge(3, 4), edge(0, 1)},
	} {
		if impl.IsValidPreference(5, triangle.edges, preferences) {
			t.Errorf("%v is valid", preferences)
		}
		for _, set := range subsets(5) {
			if impl.IsParetoOptimal(5, triangle.edges, preferences, set) || len(impl.UndominatedFacts(5, triangle.edges, preferences, set)) != 0 {
				t.Errorf("%v with %v", set, preferences)
			}
		}
		if len(impl.GreedyRepair(5, triangle.edges, preferences)) != 0 || len(impl.GreedyRepairs(5, triangle.edges, preferences)) != 0 || len(impl.ParetoOptimalRepairs(5, triangle.edges, preferences)) != 0 {
			t.Errorf("repairs with %v", preferences)
		}
	}
	acyclic := []impl.ConflictEdge{edge(0, 1), edge(1, 2), edge(0, 2), edge(4, 3), edge(0, 1)}
	if got := impl.GreedyRepairs(5, triangle.edges, acyclic); !impl.IsValidPreference(5, triangle.edges, acyclic) || !equalLists(got, [][]int{{0, 4}}) {
		t.Errorf("without a cycle: %v", got)
	}
}

// TestParetoOptimalButNotGreedy has a repair that no selection leads to although no vertex improves it.
func TestParetoOptimalButNotGreedy(t *testing.T) {
	edges := []impl.ConflictEdge{edge(0, 2), edge(0, 3), edge(1, 2), edge(1, 3)}
	preferences := []impl.ConflictEdge{edge(0, 2), edge(1, 3)}
	if got, want := impl.ParetoOptimalRepairs(4, edges, preferences), [][]int{{0, 1}, {2, 3}}; !equalLists(got, want) {
		t.Errorf("%v, want %v", got, want)
	}
	if got, want := impl.GreedyRepairs(4, edges, preferences), [][]int{{0, 1}}; !equalLists(got, want) {
		t.Errorf("%v, want %v", got, want)
	}
}

func TestPreferencesOfInvalidGraphsAndSets(t *testing.T) {
	for _, g := range invalidGraphs() {
		for _, preferences := range [][]impl.ConflictEdge{nil, {edge(0, 1)}, g.edges} {
			if impl.IsValidPreference(g.n, g.edges, preferences) || len(impl.GreedyRepair(g.n, g.edges, preferences)) != 0 ||
				len(impl.GreedyRepairs(g.n, g.edges, preferences)) != 0 || len(impl.ParetoOptimalRepairs(g.n, g.edges, preferences)) != 0 {
				t.Errorf("%v with the preferences %v", g, preferences)
			}
			for _, set := range [][]int{nil, {0}, {0, 1}, {1, 2}, {-1}} {
				if impl.IsParetoOptimal(g.n, g.edges, preferences, set) || len(impl.UndominatedFacts(g.n, g.edges, preferences, set)) != 0 {
					t.Errorf("%v in %v with the preferences %v", set, g, preferences)
				}
			}
		}
	}
	for _, p := range preferenceCases() {
		if p.n > 3 {
			continue
		}
		for _, set := range badIndexLists(p.n) {
			if impl.IsParetoOptimal(p.n, p.edges, p.preferences, set) || len(impl.UndominatedFacts(p.n, p.edges, p.preferences, set)) != 0 {
				t.Errorf("%v: %v", p, set)
			}
		}
	}
}

package tests

import (
	"math"
	"math/rand"
	"slices"
	"testing"

	"loop.example/g01918/impl"
)

type graph struct {
	n     int
	edges []impl.ConflictEdge
}

func edge(a, b int) impl.ConflictEdge {
	return impl.ConflictEdge{A: a, B: b}
}

// pairs returns all pairs of vertices in ascending order.
func pairs(n int) []impl.ConflictEdge {
	var all []impl.ConflictEdge
	for a := range n {
		for b := a + 1; b < n; b++ {
			all = append(all, edge(a, b))
		}
	}
	return all
}

// smallGraphs returns all graphs with at most five vertices.
func smallGraphs() []graph {
	var graphs []graph
	for n := range 6 {
		all := pairs(n)
		for _, chosen := range subsets(len(all)) {
			g := graph{n: n}
			for _, i := range chosen {
				g.edges = append(g.edges, all[i])
			}
			graphs = append(graphs, g)
		}
	}
	return graphs
}

// largeGraphs returns graphs of 8 to 14 vertices, from sparse to dense. The seed is fixed.
func largeGraphs() []graph {
	random := rand.New(rand.NewSource(8))
	graphs := []graph{{n: 14}, {14, pairs(14)}, {13, pairs(13)}, {14, []impl.ConflictEdge{edge(0, 13)}}, {14, []impl.ConflictEdge{edge(12, 13)}}}
	for _, n := range []int{8, 11, 14} {
		for _, density := range []int{1, 3, 6, 9} {
			g := graph{n: n}
			for _, e := range pairs(n) {
				if random.Intn(10) < density {
					g.edges = append(g.edges, e)
				}
			}
			graphs = append(graphs, g)
		}
	}
	return graphs
}

func (g graph) independent(set []int) bool {
	for _, e := range g.edges {
		if slices.Contains(set, e.A) && slices.Contains(set, e.B) {
			return false
		}
	}
	return true
}

func (g graph) maximal(set []int) bool {
	if !g.independent(set) {
		return false
	}
	for v := range g.n {
		if !slices.Contains(set, v) && g.independent(append(slices.Clone(set), v)) {
			return false
		}
	}
	return true
}

// maximalSets tries all sets; among two sets the one that contains the first vertex where they differ is first.
func (g graph) maximalSets() [][]int {
	var sets [][]int
	for code := 1<<g.n - 1; code >= 0; code-- {
		set := []int{}
		for v := range g.n {
			if code>>(g.n-1-v)&1 == 1 {
				set = append(set, v)
			}
		}
		if g.maximal(set) {
			sets = append(sets, set)
		}
	}
	return sets
}

// invalidGraphs returns graphs that break one rule each.
func invalidGraphs() []graph {
	graphs := []graph{
		{-1, nil}, {15, nil}, {math.MinInt, nil}, {math.MaxInt, nil}, {16, pairs(5)}, {-1, pairs(2)},
		{0, pairs(2)}, {1, pairs(2)}, {3, pairs(4)}, {14, []impl.ConflictEdge{edge(0, 14)}},
		{3, []impl.ConflictEdge{edge(0, 1), edge(0, 1)}}, {3, []impl.ConflictEdge{edge(0, 2), edge(0, 1)}},
		{3, []impl.ConflictEdge{edge(1, 2), edge(0, 1)}}, {4, []impl.ConflictEdge{edge(1, 2), edge(0, 3)}},
		{4, []impl.ConflictEdge{edge(0, 1), edge(1, 2), edge(0, 3)}},
	}
	for _, e := range []impl.ConflictEdge{
		edge(0, 0), edge(1, 1), edge(2, 1), edge(1, 0), edge(-1, 0), edge(-1, 1), edge(-2, -1), edge(0, 3), edge(3, 4), edge(2, 3),
		edge(math.MinInt, math.MaxInt), edge(math.MinInt, 1), edge(0, math.MaxInt), edge(math.MaxInt, math.MinInt), edge(0, -1),
	} {
		graphs = append(graphs, graph{3, []impl.ConflictEdge{e}}, graph{3, []impl.ConflictEdge{edge(0, 1), e}}, graph{3, []impl.ConflictEdge{e, edge(1, 2)}})
	}
	return graphs
}

func TestAreValidEdges(t *testing.T) {
	for _, g := range append(smallGraphs(), largeGraphs()...) {
		edges := roomy(g.edges)
		check := watch(t, edges)
		if !impl.AreValidEdges(g.n, edges) {
			t.Errorf("%v is refused", g)
		}
		check()
	}
	for _, g := range invalidGraphs() {
		if impl.AreValidEdges(g.n, g.edges) {
			t.Errorf("%v is accepted", g)
		}
	}
	for n, want := range map[int]bool{-1: false, 0: true, 1: true, 14: true, 15: false} {
		if impl.AreValidEdges(n, nil) != want {
			t.Errorf("%d vertices", n)
		}
	}
}

func TestKeyConflicts(t *testing.T) {
	for _, db := range validDatabases() {
		db = roomy(db)
		var want []impl.ConflictEdge
		for _, e := range pairs(len(db.Facts)) {
			if keyText(db, e.A) == keyText(db, e.B) {
				want = append(want, e)
			}
		}
		check := watch(t, db)
		got, again := impl.KeyConflicts(db), impl.KeyConflicts(db)
		check(got, again)
		if !slices.Equal(got, want) || !slices.Equal(again, want) || !impl.AreValidEdges(len(db.Facts), got) {
			t.Errorf("KeyConflicts(%s) = %v, want %v", databaseText(db), got, want)
		}
	}
	for _, db := range invalidDatabases() {
		if got := impl.KeyConflicts(db); len(got) != 0 {
			t.Errorf("KeyConflicts(%v) = %v", db, got)
		}
	}
}

func TestRepairsAreTheMaximalSetsOfKeyConflicts(t *testing.T) {
	for _, db := range validDatabases() {
		got := impl.MaximalIndependentSets(len(db.Facts), impl.KeyConflicts(db))
		if want := repairsInOrder(db); !equalLists(got, want) {
			t.Errorf("%s: %v, want %v", databaseText(db), got, want)
		}
	}
}

func TestIsIndependent(t *testing.T) {
	for _, g := range smallGraphs() {
		edges := roomy(g.edges)
		for _, set := range subsets(g.n) {
			set = roomy(set)
			check := watch(t, edges, set)
			if got := impl.IsIndependent(edges, set); got != g.independent(set) {
				t.Fatalf("IsIndependent(%v, %v) = %v", g, set, got)
			}
			check()
		}
	}
}

func TestIsIndependentOfAnyArguments(t *testing.T) {
	odd := []impl.ConflictEdge{edge(5, 2), edge(-1, math.MaxInt), edge(7, 7), edge(5, 2), edge(0, 100)}
	for _, c := range []struct {
		set  []int
		want bool
	}{
		{nil, true}, {[]int{2}, true}, {[]int{2, 5}, false}, {[]int{5, 2}, false}, {[]int{5, 3, 5}, true}, {[]int{3, 5, 3, 2}, false},
		{[]int{7}, false}, {[]int{-1}, true}, {[]int{math.MaxInt, -1}, false}, {[]int{math.MaxInt, math.MinInt}, true},
		{[]int{100, 50}, true}, {[]int{100, 50, 0}, false}, {[]int{1, 1, 1}, true},
	} {
		check := watch(t, odd, c.set)
		if got := impl.IsIndependent(odd, c.set); got != c.want {
			t.Errorf("IsIndependent(%v) = %v", c.set, got)
		}
		check()
		if !impl.IsIndependent(nil, c.set) {
			t.Errorf("%v without edges", c.set)
		}
	}
}

func TestIsMaximalIndependentAndExtendToMaximal(t *testing.T) {
	for _, g := range smallGraphs() {
		edges := roomy(g.edges)
		for _, set := range subsets(g.n) {
			set = roomy(set)
			check := watch(t, edges, set)
			if got := impl.IsMaximalIndependent(g.n, edges, set); got != g.maximal(set) {
				t.Fatalf("IsMaximalIndependent(%v, %v) = %v", g, set, got)
			}
			got, ok := impl.ExtendToMaximal(g.n, edges, set)
			again, _ := impl.ExtendToMaximal(g.n, edges, set)
			check(got, again)
			if ok != g.independent(set) || !slices.Equal(got, again) || !ok && len(got) != 0 {
				t.Fatalf("ExtendToMaximal(%v, %v) = %v, %v", g, set, got, ok)
			}
			if ok && (!slices.Equal(got, g.grown(set)) || !impl.IsMaximalIndependent(g.n, edges, got)) {
				t.Fatalf("ExtendToMaximal(%v, %v) = %v", g, set, got)
			}
		}
		checkBadSets(t, g)
	}
	for _, g := range largeGraphs() {
		for v := range g.n {
			if got, ok := impl.ExtendToMaximal(g.n, g.edges, []int{v}); !ok || !slices.Equal(got, g.grown([]int{v})) || !g.maximal(got) {
				t.Fatalf("ExtendToMaximal(%v, %d) = %v, %v", g, v, got, ok)
			}
		}
	}
}

func (g graph) grown(set []int) []int {
	larger := slices.Clone(set)
	for v := range g.n {
		if with := append(slices.Clone(larger), v); !slices.Contains(larger, v) && g.independent(with) {
			larger = with
		}
	}
	slices.Sort(larger)
	return larger
}

func checkBadSets(t *testing.T, g graph) {
	t.Helper()
	for _, set := range badIndexLists(g.n) {
		if impl.IsMaximalIndependent(g.n, g.edges, set) {
			t.Fatalf("IsMaximalIndependent(%v, %v)", g, set)
		}
		if got, ok := impl.ExtendToMaximal(g.n, g.edges, set); ok || len(got) != 0 {
			t.Fatalf("ExtendToMaximal(%v, %v) = %v, %v", g, set, got, ok)
		}
	}
}

func TestMaximalIndependentSets(t *testing.T) {
	for _, g := range append(smallGraphs(), largeGraphs()...) {
		edges := roomy(g.edges)
		want := g.maximalSets()
		check := watch(t, edges)
		got, again := impl.MaximalIndependentSets(g.n, edges), impl.MaximalIndependentSets(g.n, edges)
		check(got, again)
		if !equalLists(got, want) || !equalLists(again, want) {
			t.Fatalf("MaximalIndependentSets(%v) = %v, want %v", g, got, want)
		}
		size := 0
		for _, set := range want {
			size = max(size, len(set))
		}
		if got := impl.MaximumIndependentSize(g.n, edges); got != size {
			t.Fatalf("MaximumIndependentSize(%v) = %d, want %d", g, got, size)
		}
	}
}

func TestIsolatedVertex(t *testing.T) {
	edges := []impl.ConflictEdge{edge(0, 1), edge(1, 3)}
	if got, want := impl.MaximalIndependentSets(5, edges), [][]int{{0, 2, 3, 4}, {1, 2, 4}}; !equalLists(got, want) {
		t.Errorf("%v, want %v", got, want)
	}
	if got, ok := impl.ExtendToMaximal(5, edges, []int{1}); !ok || !slices.Equal(got, []int{1, 2, 4}) {
		t.Error(got, ok)
	}
	if impl.IsMaximalIndependent(5, edges, []int{1, 2}) || impl.IsMaximalIndependent(5, edges, []int{1, 4}) || !impl.IsMaximalIndependent(5, edges, []int{1, 2, 4}) {
		t.Error("an isolated vertex is left out")
	}
	if got := impl.MaximumIndependentSize(5, edges); got != 4 {
		t.Error(got)
	}
	for n := range 15 {
		var all []int
		for v := range n {
			all = append(all, v)
		}
		if got := impl.MaximalIndependentSets(n, nil); len(got) != 1 || !slices.Equal(got[0], all) {
			t.Errorf("%d isolated vertices: %v", n, got)
		}
		if got := impl.MaximumIndependentSize(n, nil); got != n {
			t.Errorf("%d isolated vertices: size %d", n, got)
		}
	}
}

func TestInvalidGraphs(t *testing.T) {
	for _, g := range invalidGraphs() {
		if got := impl.MaximalIndependentSets(g.n, g.edges); len(got) != 0 {
			t.Errorf("MaximalIndependentSets(%v) = %v", g, got)
		}
		if got := impl.MaximumIndependentSize(g.n, g.edges); got != 0 {
			t.Errorf("MaximumIndependentSize(%v) = %d", g, got)
		}
		for _, set := range [][]int{nil, {0}, {0, 2}, {-1}, {1, 0}} {
			if impl.IsMaximalIndependent(g.n, g.edges, set) {
				t.Errorf("IsMaximalIndependent(%v, %v)", g, set)
			}
			if got, ok := impl.ExtendToMaximal(g.n, g.edges, set); ok || len(got) != 0 {
				t.Errorf("ExtendToMaximal(%v, %v) = %v, %v", g, set, got, ok)
			}
		}
	}
}

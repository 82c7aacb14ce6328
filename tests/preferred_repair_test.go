package tests

import (
	"math/rand"
	"slices"
	"testing"

	"loop.example/g01918/impl"
)

// preferredQuestions returns questions with constraints and with preferences among their conflicts, which need not be valid.
func preferredQuestions(seed int64, count int) []struct {
	constrained
	preferred
} {
	random := rand.New(rand.NewSource(seed))
	var all []struct {
		constrained
		preferred
	}
	for _, c := range constrainedQuestions(seed, count) {
		g := plainConflicts(c.db, c.constraints)
		for _, p := range []preferred{{graph: g}, randomPreferences(random, g), randomPreferences(random, g)} {
			all = append(all, struct {
				constrained
				preferred
			}{c, p})
		}
	}
	return all
}

// paretoRepairs tries all sets of facts, without the program.
func (p preferred) paretoRepairs() [][]int {
	if !p.isValid() {
		return nil
	}
	return slices.DeleteFunc(p.maximalSets(), func(set []int) bool { return !p.paretoOptimal(set) })
}

func (p preferred) greedyRepairs() [][]int {
	if !p.isValid() || p.n > 7 {
		return nil
	}
	return p.greedyAll(p.vertices(), nil, nil)
}

func TestPreferredRepairs(t *testing.T) {
	counts := map[string]int{}
	for _, c := range preferredQuestions(39, 250) {
		q, preferences := c.constrained.roomy(), roomy(c.preferences)
		want := c.paretoRepairs()
		check := watch(t, q.db, q.constraints, preferences)
		got := impl.PreferredRepairs(q.db, q.constraints, preferences)
		again := impl.PreferredRepairs(q.db, q.constraints, preferences)
		check(got, again)
		if !equalLists(got, want) || !equalLists(again, want) {
			t.Errorf("%v, %v: %v, want %v", q, preferences, got, want)
		}
		all := impl.SubsetRepairs(q.db, q.constraints)
		switch {
		case !c.isValid():
			counts["invalid"]++
		case len(got) < len(all) && len(got) > 1:
			counts["several"]++
		case len(got) < len(all):
			counts["one"]++
		case len(preferences) == 0 && len(all) > 1:
			counts["all"]++
		}
	}
	for _, kind := range []string{"invalid", "several", "one", "all"} {
		if counts[kind] < 10 {
			t.Error(counts)
		}
	}
}

func TestQueriesInPreferredAndGreedyRepairs(t *testing.T) {
	counts := map[[3]bool]int{}
	for _, c := range preferredQuestions(40, 500) {
		q, preferences := c.constrained.roomy(), roomy(c.preferences)
		wantPreferred, wantGreedy := verdictOf(q.question, c.paretoRepairs()), verdictOf(q.question, c.greedyRepairs())
		check := watch(t, q.db, q.constraints, preferences, q.query)
		isPreferred := impl.PreferredCertain(q.db, q.constraints, preferences, q.query)
		isGreedy := impl.GreedyCertain(q.db, q.constraints, preferences, q.query)
		check()
		if isPreferred != wantPreferred.certain || isGreedy != wantGreedy.certain {
			t.Errorf("%v, %v: certain %v, want %v; by greedy repairs %v, want %v", q, preferences, isPreferred, wantPreferred.certain, isGreedy, wantGreedy.certain)
		}
		isSubset := impl.SubsetCertain(q.db, q.constraints, q.query)
		if isSubset && c.isValid() && !isPreferred {
			t.Errorf("%v, %v: certain in all subset repairs, but not in the preferred ones", q, preferences)
		}
		if c.isValid() && c.n <= 7 {
			if isSubset && !isGreedy || isPreferred && !isGreedy {
				t.Errorf("%v, %v: certain %v, in the preferred repairs %v, but not in the greedy ones", q, preferences, isSubset, isPreferred)
			}
			counts[[3]bool{isSubset, isPreferred, isGreedy}]++
		} else if isGreedy {
			t.Errorf("%v, %v: certain in greedy repairs, of which there are none", q, preferences)
		}
	}
	if counts[[3]bool{true, true, true}] < 50 || counts[[3]bool{false, true, true}] < 20 || counts[[3]bool{false, false, false}] < 50 {
		t.Error(counts)
	}
}

// TestGreedyButNotPreferred has a Pareto optimal repair that is not greedy, in which the query does not hold.
func TestGreedyButNotPreferred(t *testing.T) {
	db := database("r1/2 s1/2:r0|1 r1|1 s1|1 s2|1")
	constraints := []impl.DenialConstraint{constraint(0, 1, 1, 1, 1, 1, impl.CompareEqual)}
	preferences := []impl.ConflictEdge{edge(0, 2), edge(1, 3)}
	q := query(db.Relations, "?rx|y")
	if got := impl.PreferredRepairs(db, constraints, preferences); !equalLists(got, [][]int{{0, 1}, {2, 3}}) {
		t.Error(got)
	}
	if impl.PreferredCertain(db, constraints, preferences, q) || !impl.GreedyCertain(db, constraints, preferences, q) {
		t.Errorf("preferred %v, greedy %v", impl.PreferredCertain(db, constraints, preferences, q), impl.GreedyCertain(db, constraints, preferences, q))
	}
}

func TestTotalPreferencesLeaveOneRepair(t *testing.T) {
	random := rand.New(rand.NewSource(41))
	several := 0
	for _, c := range constrainedQuestions(42, 300) {
		g := plainConflicts(c.db, c.constraints)
		rank := random.Perm(max(g.n, 1))
		total := preferred{graph: g}
		for _, e := range g.edges {
			if rank[e.A] > rank[e.B] {
				e = edge(e.B, e.A)
			}
			total.preferences = append(total.preferences, e)
		}
		for _, preferences := range [][]impl.ConflictEdge{total.preferences, impl.NewestFirst(c.db, c.constraints)} {
			got := impl.PreferredRepairs(c.db, c.constraints, preferences)
			if want := impl.GreedyRepair(g.n, g.edges, preferences); !equalLists(got, [][]int{want}) {
				t.Errorf("%v, %v: %v, want only %v", c, preferences, got, want)
			}
			for _, repair := range got {
				holds := impl.HoldsIn(c.db, repair, c.query)
				if impl.PreferredCertain(c.db, c.constraints, preferences, c.query) != holds || g.n <= 7 && impl.GreedyCertain(c.db, c.constraints, preferences, c.query) != holds {
					t.Errorf("%v, %v: certain %v, but it holds in %v: %v", c, preferences, !holds, repair, holds)
				}
			}
		}
		if len(impl.SubsetRepairs(c.db, c.constraints)) > 1 {
			several++
		}
	}
	if several < 100 {
		t.Errorf("only %d questions have several repairs", several)
	}
}

func TestNewestFirst(t *testing.T) {
	for _, c := range constrainedQuestions(43, 300) {
		c = c.roomy()
		var want []impl.ConflictEdge
		for _, e := range plainConflicts(c.db, c.constraints).edges {
			want = append(want, edge(e.B, e.A))
		}
		check := watch(t, c.db, c.constraints)
		got, again := impl.NewestFirst(c.db, c.constraints), impl.NewestFirst(c.db, c.constraints)
		check(got, again)
		if !slices.Equal(got, want) || !slices.Equal(again, want) {
			t.Errorf("%v: %v, want %v", c, got, want)
		}
		if !impl.IsValidPreference(len(c.db.Facts), impl.ConflictEdges(c.db, c.constraints), got) {
			t.Errorf("%v: %v is invalid", c, got)
		}
	}
	db := database("r1/2:r0|0 r0|1 r0|2 r1|0 r1|1")
	if got, want := impl.NewestFirst(db, nil), []impl.ConflictEdge{edge(1, 0), edge(2, 0), edge(2, 1), edge(4, 3)}; !slices.Equal(got, want) {
		t.Errorf("%v, want %v", got, want)
	}
	if got := impl.PreferredRepairs(db, nil, impl.NewestFirst(db, nil)); !equalLists(got, [][]int{{2, 4}}) {
		t.Error(got)
	}
}

func TestCyclicPreferencesAmongFacts(t *testing.T) {
	db := database("r1/2:r0|0 r0|1 r0|2 r1|1")
	for _, c := range []struct {
		preferences []impl.ConflictEdge
		want        [][]int
	}{
		{nil, [][]int{{0, 3}, {1, 3}, {2, 3}}}, {[]impl.ConflictEdge{edge(0, 1), edge(1, 0)}, nil}, {[]impl.ConflictEdge{edge(0, 1), edge(1, 2), edge(2, 0)}, nil},
		{[]impl.ConflictEdge{edge(2, 0), edge(0, 1), edge(1, 2)}, nil}, {[]impl.ConflictEdge{edge(0, 0)}, nil}, {[]impl.ConflictEdge{edge(3, 3)}, nil},
		{[]impl.ConflictEdge{edge(0, 3)}, nil}, {[]impl.ConflictEdge{edge(0, 4)}, nil}, {[]impl.ConflictEdge{edge(-1, 0)}, nil},
		{[]impl.ConflictEdge{edge(0, 1), edge(1, 2), edge(0, 2)}, [][]int{{0, 3}}}, {[]impl.ConflictEdge{edge(0, 1), edge(1, 2)}, [][]int{{0, 3}}},
		{[]impl.ConflictEdge{edge(0, 1)}, [][]int{{0, 3}, {2, 3}}}, {[]impl.ConflictEdge{edge(2, 1), edge(2, 1), edge(2, 0)}, [][]int{{2, 3}}},
	} {
		if got := impl.PreferredRepairs(db, nil, c.preferences); !equalLists(got, c.want) {
			t.Errorf("%v: %v, want %v", c.preferences, got, c.want)
		}
		for _, text := range []string{"?rx|y", "?r1|1"} {
			q := query(db.Relations, text)
			isPreferred, isGreedy := impl.PreferredCertain(db, nil, c.preferences, q), impl.GreedyCertain(db, nil, c.preferences, q)
			if isPreferred != (c.want != nil) || isGreedy != isPreferred {
				t.Errorf("%v: %s is certain: %v, by greedy repairs: %v", c.preferences, text, isPreferred, isGreedy)
			}
		}
	}
}

func TestGreedyCertainUpToSevenFacts(t *testing.T) {
	for facts := range impl.MaxFacts + 1 {
		db := impl.Database{Relations: schema("r2/2")}
		for i := range facts {
			db.Facts = append(db.Facts, fact(0, i/10, i%10))
		}
		q := query(db.Relations, "?rxy")
		if got := impl.GreedyCertain(db, nil, nil, q); got != (facts >= 1 && facts <= 7) {
			t.Errorf("%d facts: %v", facts, got)
		}
		if got := impl.PreferredCertain(db, nil, nil, q); got != (facts >= 1) {
			t.Errorf("%d facts: %v", facts, got)
		}
		if got := impl.PreferredRepairs(db, nil, nil); len(got) != 1 || len(got[0]) != facts {
			t.Errorf("%d facts: %v", facts, got)
		}
	}
}

func TestPreferredRepairsOfUnsuitableQuestions(t *testing.T) {
	for _, q := range unsuitableQuestions() {
		for _, constraints := range hostileConstraints() {
			for _, preferences := range [][]impl.ConflictEdge{nil, {edge(0, 1)}, {edge(1, 0), edge(0, 1)}} {
				c := constrained{q, constraints}.roomy()
				preferences = roomy(preferences)
				var want [][]int
				var newest []impl.ConflictEdge
				if impl.IsValidDatabase(c.db) {
					p := preferred{plainConflicts(c.db, c.constraints), preferences}
					want = p.paretoRepairs()
					for _, e := range p.edges {
						newest = append(newest, edge(e.B, e.A))
					}
				}
				check := watch(t, c.db, c.constraints, preferences, c.query)
				repairs, newestFirst := impl.PreferredRepairs(c.db, c.constraints, preferences), impl.NewestFirst(c.db, c.constraints)
				isPreferred, isGreedy := impl.PreferredCertain(c.db, c.constraints, preferences, c.query), impl.GreedyCertain(c.db, c.constraints, preferences, c.query)
				check(repairs, newestFirst)
				if !equalLists(repairs, want) || !slices.Equal(newestFirst, newest) || isPreferred || isGreedy {
					t.Errorf("%v, %v: %v, newest first %v, certain %v, %v", c.db, c.query, repairs, newestFirst, isPreferred, isGreedy)
				}
			}
		}
	}
}

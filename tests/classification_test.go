package tests

import (
	"slices"
	"testing"

	"loop.example/g01918/impl"
)

// attackPaths tells between which atoms there is a path of attacks, without the program.
func attackPaths(attacks [][]int) [][]bool {
	return connected(len(attacks), func(a, b int) bool { return attacks[a][b] != noAttack })
}

// plainClass classifies a valid query by its attacks, without the program.
func plainClass(attacks [][]int) int {
	paths := attackPaths(attacks)
	class := impl.ClassFirstOrder
	for from := range attacks {
		for to, kind := range attacks[from] {
			switch {
			case kind == strongAttack && paths[to][from]:
				return impl.ClassConp
			case kind == weakAttack && paths[to][from]:
				class = impl.ClassFixpoint
			}
		}
	}
	return class
}

func TestClassNumbers(t *testing.T) {
	classes := []int{impl.ClassInvalid, impl.ClassFirstOrder, impl.ClassFixpoint, impl.ClassConp}
	if !slices.Equal(classes, []int{0, 1, 2, 3}) {
		t.Error(classes)
	}
}

func TestClassify(t *testing.T) {
	counts := map[int]int{}
	for _, q := range schemaQueries() {
		q.relations, q.query = roomy(q.relations), roomy(q.query)
		want := plainClass(plainAttacks(q))
		check := watch(t, q.relations, q.query)
		got, isCyclic := impl.Classify(q.relations, q.query), impl.IsCyclic(q.relations, q.query)
		check()
		if got != want || isCyclic != (want != impl.ClassFirstOrder) {
			t.Errorf("%v: class %d, cyclic %v, want %d", q, got, isCyclic, want)
		}
		counts[got]++
	}
	for _, class := range []int{impl.ClassFirstOrder, impl.ClassFixpoint, impl.ClassConp} {
		if counts[class] < 50 {
			t.Errorf("class %d occurs %d times", class, counts[class])
		}
	}
}

func TestHasAttackPath(t *testing.T) {
	for _, q := range schemaQueries() {
		q.relations, q.query = roomy(q.relations), roomy(q.query)
		check := watch(t, q.relations, q.query)
		for from, row := range attackPaths(plainAttacks(q)) {
			for to, want := range row {
				if got := impl.HasAttackPath(q.relations, q.query, from, to); got != want {
					t.Errorf("%v: a path from %d to %d: %v", q, from, to, got)
				}
			}
		}
		check()
	}
}

func TestUnattackedAtomOrTwoCycle(t *testing.T) {
	for _, q := range schemaQueries() {
		a, b, ok := impl.FindTwoCycle(q.relations, q.query)
		if impl.IsCyclic(q.relations, q.query) != ok {
			t.Errorf("%v: a cycle of length two: %v", q, ok)
		}
		if !ok && len(impl.UnattackedAtoms(q.relations, q.query)) == 0 {
			t.Errorf("%v has neither an unattacked atom nor a cycle", q)
		}
		if ok && (a >= b || !impl.HasAttack(q.relations, q.query, a, b) || !impl.HasAttack(q.relations, q.query, b, a)) {
			t.Errorf("%v: %d and %d are no cycle", q, a, b)
		}
	}
}

func TestFindTwoCycle(t *testing.T) {
	found := map[[2]int]int{}
	for _, q := range schemaQueries() {
		q.relations, q.query = roomy(q.relations), roomy(q.query)
		attacks := plainAttacks(q)
		wantA, wantB, wantOK := -1, -1, false
		for _, pair := range [][2]int{{0, 1}, {0, 2}, {1, 2}} {
			a, b := pair[0], pair[1]
			if !wantOK && b < len(attacks) && attacks[a][b] != noAttack && attacks[b][a] != noAttack {
				wantA, wantB, wantOK = a, b, true
			}
		}
		check := watch(t, q.relations, q.query)
		a, b, ok := impl.FindTwoCycle(q.relations, q.query)
		check()
		if a != wantA || b != wantB || ok != wantOK {
			t.Errorf("%v: %d, %d, %v, want %d, %d, %v", q, a, b, ok, wantA, wantB, wantOK)
		}
		found[[2]int{a, b}]++
	}
	for _, pair := range [][2]int{{-1, -1}, {0, 1}, {0, 2}, {1, 2}} {
		if found[pair] == 0 {
			t.Errorf("%v never occurs", pair)
		}
	}
}

func TestTwoAtomsThatAttackEachOther(t *testing.T) {
	for _, c := range []struct {
		relations, query string
		class, a, b      int
	}{
		{"r1/2 s1/2", "?rx|y sy|x", impl.ClassFixpoint, 0, 1},
		{"r1/2 s1/2", "?rx|y sz|y", impl.ClassConp, 0, 1},
		{"r1/3 s1/3", "?rx|yz sy|xz", impl.ClassFixpoint, 0, 1},
		{"r1/3 s1/3", "?rx|yz sy|wz", impl.ClassConp, 0, 1},
		{"r1/2 s1/2 t1/2", "?tz|x rx|y sy|x", impl.ClassConp, 0, 2},
		{"r1/2 s1/2 t1/2", "?tz|w rx|y sy|x", impl.ClassFixpoint, 1, 2},
		{"r1/2 s1/2 t1/2", "?rx|y tz|w sy|x", impl.ClassFixpoint, 0, 2},
	} {
		relations := schema(c.relations)
		q := query(relations, c.query)
		if got := impl.Classify(relations, q); got != c.class {
			t.Errorf("%s: class %d, want %d", c.query, got, c.class)
		}
		if a, b, ok := impl.FindTwoCycle(relations, q); a != c.a || b != c.b || !ok {
			t.Errorf("%s: %d, %d, %v, want %d, %d", c.query, a, b, ok, c.a, c.b)
		}
		if !impl.IsCyclic(relations, q) || !impl.HasAttackPath(relations, q, c.a, c.a) || !impl.HasAttackPath(relations, q, c.b, c.b) {
			t.Errorf("%s has no cycle", c.query)
		}
	}
}

// TestStrongAttackBesideACycle has strong attacks, but none that lies on a cycle.
func TestStrongAttackBesideACycle(t *testing.T) {
	for _, c := range []struct {
		relations, query string
		class            int
	}{
		{"r1/2 s2/2", "?rx|y syz", impl.ClassFirstOrder},
		{"r1/2 s1/2 t1/2", "?rx|y sy|x tz|x", impl.ClassConp},
		{"r1/2 s1/2 t2/2", "?rx|y sy|x tyz", impl.ClassFixpoint},
		{"r1/2 s1/2 t2/2", "x?rx|y sy|z tzw", impl.ClassFirstOrder},
	} {
		relations := schema(c.relations)
		q := query(relations, c.query)
		if got := impl.Classify(relations, q); got != c.class {
			t.Errorf("%s: class %d, want %d", c.query, got, c.class)
		}
		isStrong := false
		for from := range q.Atoms {
			for to := range q.Atoms {
				isStrong = isStrong || impl.HasAttack(relations, q, from, to) && !impl.IsWeakAttack(relations, q, from, to)
			}
		}
		if !isStrong {
			t.Errorf("%s has no strong attack", c.query)
		}
	}
}

func TestFormatClass(t *testing.T) {
	texts := map[int]string{impl.ClassInvalid: "none", impl.ClassFirstOrder: "first", impl.ClassFixpoint: "fix", impl.ClassConp: "hard"}
	for _, class := range hostileInts {
		if got := impl.FormatClass(class); got != texts[class] {
			t.Errorf("FormatClass(%d) = %s", class, got)
		}
	}
}

func TestClassesOfInvalidQueries(t *testing.T) {
	for _, q := range invalidQueries() {
		if got := impl.Classify(q.relations, q.query); got != impl.ClassInvalid {
			t.Errorf("%v: class %d", q.query, got)
		}
		if a, b, ok := impl.FindTwoCycle(q.relations, q.query); a != -1 || b != -1 || ok || impl.IsCyclic(q.relations, q.query) {
			t.Errorf("%v: a cycle of %d and %d", q.query, a, b)
		}
		for _, from := range atomIndices {
			for _, to := range atomIndices {
				if impl.HasAttackPath(q.relations, q.query, from, to) {
					t.Errorf("%v: a path from %d to %d", q.query, from, to)
				}
			}
		}
	}
}

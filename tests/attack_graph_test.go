package tests

import (
	"math"
	"slices"
	"strings"
	"testing"

	"loop.example/g01918/impl"
)

// connected joins each two numbers below n between which there is a path of one or more steps.
func connected(n int, isStep func(a, b int) bool) [][]bool {
	paths := make([][]bool, n)
	for a := range n {
		for b := range n {
			paths[a] = append(paths[a], isStep(a, b))
		}
	}
	for middle := range n {
		for a := range n {
			for b := range n {
				paths[a][b] = paths[a][b] || paths[a][middle] && paths[middle][b]
			}
		}
	}
	return paths
}

// plainAttacked connects the variables outside of the key closure, without the program.
func plainAttacked(q schemaQuery, from int) []int {
	attacker := q.query.Atoms[from]
	closure := smallestClosed(q, from, keyTerms(q.relations, attacker))
	isOutside := func(v int) bool { return !slices.Contains(closure, v) }
	paths := connected(4, func(v, w int) bool {
		return isOutside(v) && isOutside(w) && slices.ContainsFunc(q.query.Atoms, func(a impl.Atom) bool {
			return slices.Contains(a.Terms, v) && slices.Contains(a.Terms, w)
		})
	})
	var attacked []int
	for w := range 4 {
		isReached := slices.ContainsFunc(attacker.Terms, func(v int) bool { return v >= 0 && isOutside(v) && (v == w || paths[v][w]) })
		if isReached {
			attacked = append(attacked, w)
		}
	}
	return attacked
}

const (
	noAttack = iota
	weakAttack
	strongAttack
)

// plainAttacks tells for each two atoms whether the first attacks the second and how, without the program. It also
// accepts what is left of a query after atoms have been removed.
func plainAttacks(q schemaQuery) [][]int {
	var attacks [][]int
	for from, a := range q.query.Atoms {
		attacked := plainAttacked(q, from)
		determined := smallestClosed(q, -1, keyTerms(q.relations, a))
		var row []int
		for to, b := range q.query.Atoms {
			kind := noAttack
			if from != to && slices.ContainsFunc(attacked, func(v int) bool { return slices.Contains(b.Terms, v) }) {
				kind = strongAttack
				if holdsVariables(determined, keyTerms(q.relations, b)) {
					kind = weakAttack
				}
			}
			row = append(row, kind)
		}
		attacks = append(attacks, row)
	}
	return attacks
}

func plainUnattacked(q schemaQuery) []int {
	attacks := plainAttacks(q)
	var unattacked []int
	for to := range attacks {
		if !slices.ContainsFunc(attacks, func(row []int) bool { return row[to] != noAttack }) {
			unattacked = append(unattacked, to)
		}
	}
	return unattacked
}

func attackText(q schemaQuery) string {
	var parts []string
	for from, row := range plainAttacks(q) {
		for to, kind := range row {
			if kind != noAttack {
				sign := strings.Repeat(">", kind)
				parts = append(parts, q.relations[q.query.Atoms[from].Relation].Name+sign+q.relations[q.query.Atoms[to].Relation].Name)
			}
		}
	}
	return strings.Join(parts, " ")
}

var atomIndices = []int{math.MinInt, -1, 0, 1, 2, 3, math.MaxInt}

func TestAttackedVariables(t *testing.T) {
	for _, q := range schemaQueries() {
		q.relations, q.query = roomy(q.relations), roomy(q.query)
		for _, i := range atomIndices {
			var want []int
			if i >= 0 && i < len(q.query.Atoms) {
				want = plainAttacked(q, i)
			}
			check := watch(t, q.relations, q.query)
			got, again := impl.AttackedVariables(q.relations, q.query, i), impl.AttackedVariables(q.relations, q.query, i)
			check(got, again)
			if !slices.Equal(got, want) || !slices.Equal(again, want) {
				t.Errorf("%v: atom %d attacks %v, want %v", q, i, got, want)
			}
			closure := impl.KeyClosure(q.relations, q.query, i)
			if slices.ContainsFunc(got, func(v int) bool { return slices.Contains(closure, v) }) {
				t.Errorf("%v: atom %d attacks %v in its key closure %v", q, i, got, closure)
			}
		}
	}
}

func TestAttacks(t *testing.T) {
	kinds := map[int]int{}
	for _, q := range schemaQueries() {
		q.relations, q.query = roomy(q.relations), roomy(q.query)
		attacks := plainAttacks(q)
		check := watch(t, q.relations, q.query)
		for from := range attacks {
			for to, kind := range attacks[from] {
				has, isWeak := impl.HasAttack(q.relations, q.query, from, to), impl.IsWeakAttack(q.relations, q.query, from, to)
				if has != (kind != noAttack) || isWeak != (kind == weakAttack) {
					t.Errorf("%v: from %d to %d: attack %v, weak %v, want %d", q, from, to, has, isWeak, kind)
				}
				if from == to && has {
					t.Errorf("%v: atom %d attacks itself", q, from)
				}
				kinds[kind]++
			}
		}
		got, again := impl.UnattackedAtoms(q.relations, q.query), impl.UnattackedAtoms(q.relations, q.query)
		text := impl.FormatAttackGraph(q.relations, q.query)
		check(got, again)
		if want := plainUnattacked(q); !slices.Equal(got, want) || !slices.Equal(again, want) {
			t.Errorf("%v: unattacked %v, want %v", q, got, want)
		}
		if want := attackText(q); text != want {
			t.Errorf("%v: attack graph %s, want %s", q, text, want)
		}
	}
	if kinds[noAttack] < 500 || kinds[weakAttack] < 500 || kinds[strongAttack] < 500 {
		t.Error(kinds)
	}
}

func TestAttackGraphExamples(t *testing.T) {
	for _, c := range []struct{ relations, query, want string }{
		{"r1/2 s1/2", "?rx|y sy|z", "r>s"},
		{"r1/2 s1/2", "?sy|z rx|y", "r>s"},
		{"r1/2 s1/2", "?rx|y sy|x", "r>s s>r"},
		{"r1/2 s1/2", "?sx|y ry|x", "s>r r>s"},
		{"r1/2 s1/2", "?rx|y sz|y", "r>>s s>>r"},
		{"r1/2 s1/2", "x?rx|y sy|x", "r>s"},
		{"r1/2 s1/2", "y?rx|y sz|y", ""},
		{"r1/2 s2/2", "?rx|y syz", "r>>s"},
		{"r1/2 s1/2 t2/2", "?rx|y sy|z tzw", "r>s r>>t s>>t"},
		{"r1/2 s1/2 t1/2", "?rx|y sy|z tz|x", "r>s r>t s>r s>t t>r t>s"},
		{"r1/2 s1/2 t1/2", "?tz|x rx|y sy|z", "t>r t>s r>t r>s s>t s>r"},
		{"r1/2 s1/2", "?rx|1 sx|2", ""},
		{"r1/2 s1/2", "?r1|x sx|y", "r>s"},
		{"r0/2 s1/2", "?r|xy sx|y", "r>s"},
		{"r0/1 s1/2", "?rx sy|x", "r>>s"},
		{"r1/2 s1/2", "?rx|y sx|y", ""},
	} {
		relations := schema(c.relations)
		if got := impl.FormatAttackGraph(relations, query(relations, c.query)); got != c.want {
			t.Errorf("%s: %s, want %s", c.query, got, c.want)
		}
	}
}

func TestAtomOfItsKeyOnly(t *testing.T) {
	for _, c := range []struct {
		relations, query string
		index            int
		unattacked       []int
	}{
		{"r2/2", "?rxy", 0, []int{0}},
		{"r2/2 s1/2", "?rxy sx|y", 0, []int{1}},
		{"r2/2 s1/2", "?sx|y rxy", 1, []int{0}},
		{"r1/1 s1/2 t1/2", "?rx sy|x tz|x", 0, nil},
		{"r3/3 s1/2", "?rx1y sz|z", 0, []int{0, 1}},
		{"r1/1", "?r5", 0, []int{0}},
		{"r0/1 s1/1", "?r1 sx", 0, []int{0, 1}},
	} {
		relations := schema(c.relations)
		q := query(relations, c.query)
		if got := impl.AttackedVariables(relations, q, c.index); len(got) != 0 {
			t.Errorf("%s: atom %d attacks %v", c.query, c.index, got)
		}
		for to := range q.Atoms {
			if impl.HasAttack(relations, q, c.index, to) || impl.IsWeakAttack(relations, q, c.index, to) {
				t.Errorf("%s: atom %d attacks atom %d", c.query, c.index, to)
			}
		}
		if got := impl.UnattackedAtoms(relations, q); !slices.Equal(got, c.unattacked) {
			t.Errorf("%s: unattacked %v, want %v", c.query, got, c.unattacked)
		}
	}
}

func TestAttacksOfNoAtom(t *testing.T) {
	for _, q := range schemaQueries()[:100] {
		for _, from := range atomIndices {
			for _, to := range atomIndices {
				if max(from, to) < len(q.query.Atoms) && min(from, to) >= 0 {
					continue
				}
				if impl.HasAttack(q.relations, q.query, from, to) || impl.IsWeakAttack(q.relations, q.query, from, to) || impl.HasAttackPath(q.relations, q.query, from, to) {
					t.Errorf("%v: from %d to %d", q, from, to)
				}
			}
		}
	}
}

func TestAttacksOfInvalidQueries(t *testing.T) {
	for _, q := range invalidQueries() {
		for _, from := range atomIndices {
			if got := impl.AttackedVariables(q.relations, q.query, from); len(got) != 0 {
				t.Errorf("AttackedVariables(%v) = %v", q.query, got)
			}
			for _, to := range atomIndices {
				if impl.HasAttack(q.relations, q.query, from, to) || impl.IsWeakAttack(q.relations, q.query, from, to) {
					t.Errorf("%v: atom %d attacks atom %d", q.query, from, to)
				}
			}
		}
		if got := impl.UnattackedAtoms(q.relations, q.query); len(got) != 0 {
			t.Errorf("UnattackedAtoms(%v) = %v", q.query, got)
		}
		if got := impl.FormatAttackGraph(q.relations, q.query); got != "" {
			t.Errorf("FormatAttackGraph(%v) = %s", q.query, got)
		}
	}
}

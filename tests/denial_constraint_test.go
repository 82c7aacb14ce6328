package tests

import (
	"math"
	"math/rand"
	"slices"
	"strconv"
	"testing"

	"loop.example/g01918/impl"
)

// constraint lists the fields in the order of the document.
func constraint(firstRelation, secondRelation, firstJoin, secondJoin, firstColumn, secondColumn, comparison int) impl.DenialConstraint {
	return impl.DenialConstraint{
		FirstRelation: firstRelation, SecondRelation: secondRelation, FirstJoinColumn: firstJoin, SecondJoinColumn: secondJoin,
		FirstColumn: firstColumn, SecondColumn: secondColumn, Comparison: comparison,
	}
}

// fields returns the addresses of the fields.
func fields(c *impl.DenialConstraint) []*int {
	return []*int{&c.FirstRelation, &c.SecondRelation, &c.FirstJoinColumn, &c.SecondJoinColumn, &c.FirstColumn, &c.SecondColumn, &c.Comparison}
}

// constraintsUpTo returns all constraints over the relations and columns from -1 to limit and the comparisons from 0 to 3.
func constraintsUpTo(limit int) []impl.DenialConstraint {
	constraints := []impl.DenialConstraint{{}}
	for field := range 7 {
		var longer []impl.DenialConstraint
		from, to := -1, limit
		if field == 6 {
			from, to = 0, 3
		}
		for _, c := range constraints {
			for n := from; n <= to; n++ {
				*fields(&c)[field] = n
				longer = append(longer, c)
			}
		}
		constraints = longer
	}
	return constraints
}

func isPlainConstraint(db impl.Database, c impl.DenialConstraint) bool {
	isColumn := func(relation, column int) bool {
		return relation >= 0 && relation < len(db.Relations) && column >= 0 && column < db.Relations[relation].Arity
	}
	return isColumn(c.FirstRelation, c.FirstJoinColumn) && isColumn(c.FirstRelation, c.FirstColumn) &&
		isColumn(c.SecondRelation, c.SecondJoinColumn) && isColumn(c.SecondRelation, c.SecondColumn) &&
		(c.Comparison == 1 || c.Comparison == 2)
}

func constraintText(db impl.Database, c impl.DenialConstraint) string {
	sign := map[int]string{1: "=", 2: "<"}[c.Comparison]
	return "not " + db.Relations[c.FirstRelation].Name + strconv.Itoa(c.FirstJoinColumn) + "=" + db.Relations[c.SecondRelation].Name +
		strconv.Itoa(c.SecondJoinColumn) + " " + strconv.Itoa(c.FirstColumn) + sign + strconv.Itoa(c.SecondColumn)
}

func violates(db impl.Database, c impl.DenialConstraint, first, second int) bool {
	if !isPlainConstraint(db, c) || first == second || min(first, second) < 0 || max(first, second) >= len(db.Facts) {
		return false
	}
	a, b := db.Facts[first], db.Facts[second]
	if a.Relation != c.FirstRelation || b.Relation != c.SecondRelation || a.Values[c.FirstJoinColumn] != b.Values[c.SecondJoinColumn] {
		return false
	}
	x, y := a.Values[c.FirstColumn], b.Values[c.SecondColumn]
	return c.Comparison == 1 && x == y || c.Comparison == 2 && x < y
}

// plainConflicts returns the conflict graph of the facts, without the program.
func plainConflicts(db impl.Database, constraints []impl.DenialConstraint) graph {
	g := graph{n: len(db.Facts)}
	for _, e := range pairs(g.n) {
		isViolated := func(c impl.DenialConstraint) bool { return violates(db, c, e.A, e.B) || violates(db, c, e.B, e.A) }
		if keyText(db, e.A) == keyText(db, e.B) || slices.ContainsFunc(constraints, isViolated) {
			g.edges = append(g.edges, e)
		}
	}
	return g
}

// constrainedDatabases returns databases whose facts meet in many columns.
func constrainedDatabases() []impl.Database {
	databases := []impl.Database{
		database("r1/2 s1/2:r0|3 r1|5 s0|4 s3|0"),
		database("r1/2 s1/1:r0|0 r0|1 r1|0 s0 s1"),
		database("r2/2 s0/1:r00 r01 r10 r11 s|0 s|1"),
		database("r2/2:r01 r10 r11 r12 r21"),
		database("r1/2:"), database(":"),
	}
	return append(databases, randomDatabases(21)...)
}

// sampleConstraints returns constraints for relations of arity 2, and some that are not valid.
func sampleConstraints(seed int64, count int) []impl.DenialConstraint {
	random := rand.New(rand.NewSource(seed))
	var constraints []impl.DenialConstraint
	for range count {
		var c impl.DenialConstraint
		for field, address := range fields(&c) {
			*address = random.Intn([]int{2, 2, 2, 2, 3, 3, 3}[field])
		}
		if random.Intn(4) > 0 {
			c.Comparison = 1 + random.Intn(2)
		}
		constraints = append(constraints, c)
	}
	return constraints
}

func TestComparisons(t *testing.T) {
	if impl.CompareEqual != 1 || impl.CompareLess != 2 {
		t.Error(impl.CompareEqual, impl.CompareLess)
	}
}

func TestIsValidConstraintAndFormatConstraint(t *testing.T) {
	constraints := constraintsUpTo(2)
	for _, s := range []string{"r1/2 s1/1:r0|0 s0", "r1/2 s0/2:", "r1/1:", ":"} {
		db := roomy(database(s))
		check := watch(t, db)
		for _, c := range constraints {
			want := isPlainConstraint(db, c)
			if got := impl.IsValidConstraint(db, c); got != want {
				t.Fatalf("IsValidConstraint(%s, %+v) = %v", s, c, got)
			}
			text := ""
			if want {
				text = constraintText(db, c)
			}
			if got := impl.FormatConstraint(db, c); got != text {
				t.Fatalf("FormatConstraint(%s, %+v) = %q, want %q", s, c, got, text)
			}
		}
		check()
	}
	db := database("r1/2 s1/2:r0|3 r1|5 s0|4 s3|0")
	for want, c := range map[string]impl.DenialConstraint{
		"not r0=s0 1<1": constraint(0, 1, 0, 0, 1, 1, 2),
		"not r1=s0 0=1": constraint(0, 1, 1, 0, 0, 1, 1),
		"not s0=r1 1<0": constraint(1, 0, 0, 1, 1, 0, 2),
		"not s1=s1 0<0": constraint(1, 1, 1, 1, 0, 0, 2),
	} {
		if got := impl.FormatConstraint(db, c); got != want {
			t.Errorf("FormatConstraint(%+v) = %q, want %q", c, got, want)
		}
	}
}

func TestConstraintLimits(t *testing.T) {
	db := database("a1/3 b1/3 c1/3 d1/3:a0|00 d0|00")
	valid := constraint(3, 3, 2, 2, 2, 2, impl.CompareLess)
	if !impl.IsValidConstraint(db, valid) {
		t.Error("the last columns are refused")
	}
	for field := range 7 {
		for _, n := range []int{math.MinInt, -1, 4, math.MaxInt} {
			c := valid
			*fields(&c)[field] = n
			if impl.IsValidConstraint(db, c) || impl.FormatConstraint(db, c) != "" || impl.ViolatesConstraint(db, c, 0, 1) {
				t.Errorf("%+v is accepted", c)
			}
			if !impl.SatisfiesConstraints(db, []impl.DenialConstraint{c}) {
				t.Errorf("the invalid %+v is violated", c)
			}
		}
	}
}

func TestViolatesConstraint(t *testing.T) {
	for i, db := range constrainedDatabases() {
		db = roomy(db)
		check := watch(t, db)
		constraints := sampleConstraints(int64(i), 40)
		if i == 1 {
			constraints = constraintsUpTo(1)
		}
		for _, c := range constraints {
			for first := -1; first <= len(db.Facts); first++ {
				for second := -1; second <= len(db.Facts); second++ {
					if got, want := impl.ViolatesConstraint(db, c, first, second), violates(db, c, first, second); got != want {
						t.Fatalf("ViolatesConstraint(%s, %+v, %d, %d) = %v", databaseText(db), c, first, second, got)
					}
				}
			}
			for _, index := range []int{math.MinInt, math.MaxInt} {
				if impl.ViolatesConstraint(db, c, index, 0) || impl.ViolatesConstraint(db, c, 0, index) || impl.ViolatesConstraint(db, c, index, index) {
					t.Fatalf("ViolatesConstraint(%s, %+v) with index %d", databaseText(db), c, index)
				}
			}
		}
		check()
	}
}

func TestViolatesConstraintExamples(t *testing.T) {
	db := database("r1/2 s1/2:r0|3 r1|5 s0|4 s3|0")
	less := constraint(0, 1, 0, 0, 1, 1, impl.CompareLess)
	equal := constraint(0, 1, 1, 0, 0, 1, impl.CompareEqual)
	for first := range 4 {
		for second := range 4 {
			if got := impl.ViolatesConstraint(db, less, first, second); got != (first == 0 && second == 2) {
				t.Errorf("less: %d, %d: %v", first, second, got)
			}
			if got := impl.ViolatesConstraint(db, equal, first, second); got != (first == 0 && second == 3) {
				t.Errorf("equal: %d, %d: %v", first, second, got)
			}
		}
	}
	same := constraint(0, 1, 0, 0, 1, 1, impl.CompareLess)
	if impl.ViolatesConstraint(database("r1/2 s1/2:r0|4 s0|4"), same, 0, 1) || impl.ViolatesConstraint(database("r1/2 s1/2:r0|5 s0|4"), same, 0, 1) {
		t.Error("less holds for a value that is equal or greater")
	}
}

func TestFactComparedWithItself(t *testing.T) {
	db := database("r2/2:r00 r01 r11 r55")
	for _, c := range []impl.DenialConstraint{constraint(0, 0, 0, 0, 0, 0, 1), constraint(0, 0, 0, 0, 1, 1, 1), constraint(0, 0, 0, 1, 0, 1, 1), constraint(0, 0, 0, 0, 0, 1, 2)} {
		for i := range db.Facts {
			if impl.ViolatesConstraint(db, c, i, i) {
				t.Errorf("fact %d violates %+v with itself", i, c)
			}
		}
	}
	all := []impl.DenialConstraint{constraint(0, 0, 0, 0, 0, 0, 1)}
	if got := impl.ConflictEdges(db, all); !slices.Equal(got, []impl.ConflictEdge{edge(0, 1)}) {
		t.Error(got)
	}
	one := database("r2/2:r55")
	if !impl.SatisfiesConstraints(one, all) || len(impl.ConflictEdges(one, all)) != 0 {
		t.Error("a single fact is in conflict with itself")
	}
}

func TestConflictEdges(t *testing.T) {
	for i, db := range constrainedDatabases() {
		db = roomy(db)
		for count := range 5 {
			constraints := roomy(sampleConstraints(int64(100*i+count), count))
			want := plainConflicts(db, constraints).edges
			check := watch(t, db, constraints)
			got, again := impl.ConflictEdges(db, constraints), impl.ConflictEdges(db, constraints)
			check(got, again)
			if !slices.Equal(got, want) || !slices.Equal(again, want) || !impl.AreValidEdges(len(db.Facts), got) {
				t.Fatalf("ConflictEdges(%s, %+v) = %v, want %v", databaseText(db), constraints, got, want)
			}
			if got := impl.SatisfiesConstraints(db, constraints); got != (len(want) == 0) {
				t.Fatalf("SatisfiesConstraints(%s, %+v) = %v", databaseText(db), constraints, got)
			}
			check()
		}
	}
}

func TestViolatedConstraintsAreConflictEdges(t *testing.T) {
	found := 0
	for i, db := range constrainedDatabases() {
		constraints := sampleConstraints(int64(i), 3)
		edges := impl.ConflictEdges(db, constraints)
		for _, c := range constraints {
			for first := range db.Facts {
				for second := range db.Facts {
					if impl.ViolatesConstraint(db, c, first, second) {
						found++
						if !slices.Contains(edges, edge(min(first, second), max(first, second))) {
							t.Errorf("%s: %d and %d violate %+v without an edge", databaseText(db), first, second, c)
						}
					}
				}
			}
		}
	}
	if found == 0 {
		t.Error("no constraint was violated")
	}
}

func TestMaximalSetsSatisfyConstraints(t *testing.T) {
	for i, db := range constrainedDatabases() {
		for count := range 4 {
			constraints := sampleConstraints(int64(10*i+count), count)
			for _, set := range impl.MaximalIndependentSets(len(db.Facts), impl.ConflictEdges(db, constraints)) {
				selected, ok := impl.SelectFacts(db, set)
				if !ok || !impl.SatisfiesConstraints(selected, constraints) {
					t.Errorf("%v of %s violates %+v", set, databaseText(db), constraints)
				}
			}
		}
	}
}

func TestConflictEdgesInOrder(t *testing.T) {
	db := database("r1/2 s1/2:r0|0 r0|1 r1|0 s0|1 s1|1")
	// The fact of s that agrees with an r in the key and is greater is in conflict with it, from either side.
	less := constraint(0, 1, 0, 0, 1, 1, impl.CompareLess)
	greater := constraint(1, 0, 0, 0, 1, 1, impl.CompareEqual)
	want := []impl.ConflictEdge{edge(0, 1), edge(0, 3), edge(1, 3), edge(2, 4)}
	if got := impl.ConflictEdges(db, []impl.DenialConstraint{less, greater, less}); !slices.Equal(got, want) {
		t.Errorf("%v, want %v", got, want)
	}
}

func TestConstraintsOfInvalidDatabases(t *testing.T) {
	c := constraint(0, 0, 0, 0, 1, 1, impl.CompareLess)
	for _, db := range invalidDatabases() {
		if impl.IsValidConstraint(db, c) || impl.FormatConstraint(db, c) != "" || impl.ViolatesConstraint(db, c, 0, 1) || impl.ViolatesConstraint(db, c, 1, 0) {
			t.Errorf("a constraint of %v", db)
		}
		if impl.SatisfiesConstraints(db, nil) || impl.SatisfiesConstraints(db, []impl.DenialConstraint{c}) {
			t.Errorf("%v satisfies constraints", db)
		}
		if len(impl.ConflictEdges(db, nil)) != 0 || len(impl.ConflictEdges(db, []impl.DenialConstraint{c})) != 0 {
			t.Errorf("edges of %v", db)
		}
	}
	if !impl.SatisfiesConstraints(impl.Database{}, []impl.DenialConstraint{c}) || impl.IsValidConstraint(impl.Database{}, c) {
		t.Error("the zero database")
	}
}

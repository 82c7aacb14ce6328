package tests

import (
	"math"
	"slices"
	"testing"

	"loop.example/g01918/impl"
)

// plainColumn returns the values of the column in the facts at these indices, without the program.
func plainColumn(db impl.Database, indices []int, relation, column int) []int {
	var values []int
	for _, i := range indices {
		if db.Facts[i].Relation == relation {
			values = append(values, db.Facts[i].Values[column])
		}
	}
	return values
}

// aggregate is a function with a range and its results for the values of a column.
type aggregate struct {
	name       string
	find       func(db impl.Database, relation, column int) (int, int, bool)
	of         func(values []int) int
	needsFacts bool
}

func aggregates() []aggregate {
	all := []aggregate{
		{"SumRange", impl.SumRange, plainSum, false}, {"MinRange", impl.MinRange, slices.Min[[]int], true}, {"MaxRange", impl.MaxRange, slices.Max[[]int], true},
		{"DistinctRange", impl.DistinctRange, func(values []int) int { return len(slices.Compact(slices.Sorted(slices.Values(values)))) }, false},
	}
	for _, value := range []int{math.MinInt, -1, 0, 1, 2, 9, 10, math.MaxInt} {
		find := func(db impl.Database, relation, column int) (int, int, bool) {
			return impl.CountRange(db, relation, column, value)
		}
		of := func(values []int) int {
			return len(slices.DeleteFunc(slices.Clone(values), func(other int) bool { return other != value }))
		}
		all = append(all, aggregate{"CountRange", find, of, false})
	}
	return all
}

func plainSum(values []int) int {
	total := 0
	for _, value := range values {
		total += value
	}
	return total
}

// aggregateDatabases leaves out most of the small databases.
func aggregateDatabases() []impl.Database {
	var databases []impl.Database
	for i, db := range validDatabases() {
		if i%5 == 0 || len(db.Facts) > 8 {
			databases = append(databases, db)
		}
	}
	return databases
}

func hasColumn(db impl.Database, relation, column int) bool {
	return relation >= 0 && relation < len(db.Relations) && column >= 0 && column < db.Relations[relation].Arity
}

func TestRangesOfAllRepairs(t *testing.T) {
	wide := map[string]int{}
	for _, db := range aggregateDatabases() {
		db = roomy(db)
		repairs := repairsInOrder(db)
		for relation := range db.Relations {
			for column := range db.Relations[relation].Arity {
				for _, a := range aggregates() {
					var results []int
					for _, repair := range repairs {
						if values := plainColumn(db, repair, relation, column); len(values) > 0 || !a.needsFacts {
							results = append(results, a.of(values))
						}
					}
					low, high := 0, 0
					if len(results) > 0 {
						low, high = slices.Min(results), slices.Max(results)
					}
					check := watch(t, db)
					gotLow, gotHigh, ok := a.find(db, relation, column)
					check()
					if gotLow != low || gotHigh != high || ok != (len(results) > 0) {
						t.Errorf("%s: %s of column %d of relation %d: %d, %d, %v, want %d, %d", databaseText(db), a.name, column, relation, gotLow, gotHigh, ok, low, high)
					}
					if low < high {
						wide[a.name]++
					}
				}
			}
		}
	}
	for _, a := range aggregates() {
		if wide[a.name] < 50 {
			t.Errorf("%s: only %d wide ranges", a.name, wide[a.name])
		}
	}
}

func TestSumRangeIsAttained(t *testing.T) {
	for _, db := range aggregateDatabases() {
		for relation := range db.Relations {
			for column := range db.Relations[relation].Arity {
				low, high, ok := impl.SumRange(db, relation, column)
				isLow, isHigh := false, false
				for _, repair := range repairsInOrder(db) {
					total := impl.ColumnSum(db, repair, relation, column)
					isLow, isHigh = isLow || total == low, isHigh || total == high
					if total < low || total > high {
						t.Errorf("%s: the sum of %v is %d, not from %d to %d", databaseText(db), repair, total, low, high)
					}
				}
				if !ok || !isLow || !isHigh {
					t.Errorf("%s: the range from %d to %d is not attained", databaseText(db), low, high)
				}
			}
		}
	}
}

func TestRangeExamples(t *testing.T) {
	const db = "r1/2 s1/2 t0/1:r0|2 r0|5 r1|3 r2|3 r2|4 r2|9 t|0 t|9"
	for _, c := range []struct {
		name      string
		find      func(db impl.Database, relation, column int) (int, int, bool)
		relation  int
		column    int
		low, high int
		ok        bool
	}{
		{"sum", impl.SumRange, 0, 1, 8, 17, true}, {"sum", impl.SumRange, 0, 0, 3, 3, true}, {"sum", impl.SumRange, 1, 1, 0, 0, true}, {"sum", impl.SumRange, 2, 0, 0, 9, true},
		{"min", impl.MinRange, 0, 1, 2, 3, true}, {"min", impl.MinRange, 0, 0, 0, 0, true}, {"min", impl.MinRange, 1, 1, 0, 0, false}, {"min", impl.MinRange, 2, 0, 0, 9, true},
		{"max", impl.MaxRange, 0, 1, 3, 9, true}, {"max", impl.MaxRange, 0, 0, 2, 2, true}, {"max", impl.MaxRange, 1, 0, 0, 0, false}, {"max", impl.MaxRange, 2, 0, 0, 9, true},
		{"distinct", impl.DistinctRange, 0, 1, 2, 3, true}, {"distinct", impl.DistinctRange, 0, 0, 3, 3, true}, {"distinct", impl.DistinctRange, 1, 0, 0, 0, true},
		{"distinct", impl.DistinctRange, 2, 0, 1, 1, true}, {"sum", impl.SumRange, 2, 1, 0, 0, false}, {"sum", impl.SumRange, 3, 0, 0, 0, false},
	} {
		low, high, ok := c.find(database(db), c.relation, c.column)
		if low != c.low || high != c.high || ok != c.ok {
			t.Errorf("%s of column %d of relation %d: %d, %d, %v", c.name, c.column, c.relation, low, high, ok)
		}
	}
	for value, want := range map[int][2]int{3: {1, 2}, 2: {0, 1}, 9: {0, 1}, 0: {0, 0}, -1: {0, 0}, 10: {0, 0}} {
		if low, high, ok := impl.CountRange(database(db), 0, 1, value); !ok || low != want[0] || high != want[1] {
			t.Errorf("the value %d occurs %d to %d times, %v", value, low, high, ok)
		}
	}
}

func TestRelationWithoutFacts(t *testing.T) {
	for _, s := range []string{"r1/2:", "a1/1 r1/2:a0 a1", "r1/2 s0/1:s|0 s|1", "r0/3:", "r3/3 s1/1:s9"} {
		db := database(s)
		relation := impl.RelationIndex(db.Relations, "r")
		for column := range db.Relations[relation].Arity {
			for _, a := range aggregates() {
				low, high, ok := a.find(db, relation, column)
				if low != 0 || high != 0 || ok == a.needsFacts {
					t.Errorf("%s: %s of column %d: %d, %d, %v", s, a.name, column, low, high, ok)
				}
			}
			all, _ := impl.NthRepair(db, 0)
			if got := impl.ColumnSum(db, all, relation, column); got != 0 {
				t.Errorf("%s: the sum of column %d is %d", s, column, got)
			}
		}
	}
}

func TestRangesOfOtherColumns(t *testing.T) {
	db := database("a1/1 b1/2 c1/3:a3 b1|3 b1|4 c1|23 c1|24")
	for _, relation := range hostileInts {
		for _, column := range hostileInts {
			want := hasColumn(db, relation, column)
			for _, a := range aggregates() {
				if low, high, ok := a.find(db, relation, column); ok != want || !ok && (low != 0 || high != 0) {
					t.Errorf("%s of column %d of relation %d: %d, %d, %v", a.name, column, relation, low, high, ok)
				}
			}
			if got := impl.ColumnSum(db, []int{0, 1, 3}, relation, column); (got != 0) != want {
				t.Errorf("the sum of column %d of relation %d: %d", column, relation, got)
			}
		}
	}
	for _, db := range invalidDatabases() {
		for relation := range 3 {
			for column := range 2 {
				for _, a := range aggregates() {
					if low, high, ok := a.find(db, relation, column); ok || low != 0 || high != 0 {
						t.Errorf("%v: %s of column %d of relation %d: %d, %d, %v", db, a.name, column, relation, low, high, ok)
					}
				}
				for _, indices := range [][]int{nil, {0}, {0, 1}} {
					if got := impl.ColumnSum(db, indices, relation, column); got != 0 {
						t.Errorf("%v: the sum of column %d of relation %d: %d", db, column, relation, got)
					}
				}
			}
		}
	}
}

func TestColumnSum(t *testing.T) {
	eachIndexList(func(db impl.Database, indices []int, isValid bool) {
		check := watch(t, db, indices)
		for relation := range db.Relations {
			for column := range db.Relations[relation].Arity {
				want := 0
				if isValid {
					want = plainSum(plainColumn(db, indices, relation, column))
				}
				if got := impl.ColumnSum(db, indices, relation, column); got != want {
					t.Fatalf("ColumnSum(%s, %v, %d, %d) = %d, want %d", databaseText(db), indices, relation, column, got, want)
				}
			}
		}
		check()
	})
}

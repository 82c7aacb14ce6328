package tests

import (
	"math"
	"slices"
	"strconv"
	"strings"
	"testing"

	"loop.example/g01918/impl"
)

// plainGroup returns the values of the column in the facts of the relation with this value in groupColumn, without the program.
func plainGroup(db impl.Database, indices []int, relation, groupColumn, column, value int) []int {
	var values []int
	for _, i := range indices {
		if f := db.Facts[i]; f.Relation == relation && f.Values[groupColumn] == value {
			values = append(values, f.Values[column])
		}
	}
	return values
}

// plainGroupRange goes through all repairs without the program.
func plainGroupRange(db impl.Database, relation, groupColumn, column, value int) impl.GroupRange {
	group := impl.GroupRange{Value: value, InAllRepairs: true}
	for i, repair := range repairsInOrder(db) {
		values := plainGroup(db, repair, relation, groupColumn, column, value)
		total := plainSum(values)
		if i == 0 {
			group.Min, group.Max = total, total
		}
		group.Min, group.Max = min(group.Min, total), max(group.Max, total)
		group.InAllRepairs = group.InAllRepairs && len(values) > 0
	}
	return group
}

// eachGroupColumn visits a third of the databases with all pairs of columns of one relation.
func eachGroupColumn(visit func(db impl.Database, relation, groupColumn, column int)) {
	for i, db := range aggregateDatabases() {
		if i%3 > 0 {
			continue
		}
		db = roomy(db)
		for relation, r := range db.Relations {
			for groupColumn := range r.Arity {
				for column := range r.Arity {
					visit(db, relation, groupColumn, column)
				}
			}
		}
	}
}

func TestGroupSumRangeAndGroupInAllRepairs(t *testing.T) {
	counts := map[bool]int{}
	wide := 0
	eachGroupColumn(func(db impl.Database, relation, groupColumn, column int) {
		for _, value := range []int{math.MinInt, -1, 0, 1, 2, 9, 10, math.MaxInt} {
			want := plainGroupRange(db, relation, groupColumn, column, value)
			check := watch(t, db)
			low, high, ok := impl.GroupSumRange(db, relation, groupColumn, column, value)
			isInAll := impl.GroupInAllRepairs(db, relation, groupColumn, value)
			check()
			if !ok || low != want.Min || high != want.Max || isInAll != want.InAllRepairs {
				t.Fatalf("%s: the sum of column %d of relation %d with %d in column %d: %d, %d, %v, in all repairs %v, want %v",
					databaseText(db), column, relation, value, groupColumn, low, high, ok, isInAll, want)
			}
			counts[isInAll]++
			if 0 < low && low < high {
				wide++
			}
		}
	})
	if counts[true] < 500 || counts[false] < 500 || wide < 50 {
		t.Error(counts, wide)
	}
}

func TestGroupRanges(t *testing.T) {
	counts := map[int]int{}
	eachGroupColumn(func(db impl.Database, relation, groupColumn, column int) {
		var want []impl.GroupRange
		for value := range 10 {
			if len(plainGroup(db, numbersUpTo(len(db.Facts)), relation, groupColumn, column, value)) > 0 {
				want = append(want, plainGroupRange(db, relation, groupColumn, column, value))
			}
		}
		check := watch(t, db)
		got, ok := impl.GroupRanges(db, relation, groupColumn, column)
		again, _ := impl.GroupRanges(db, relation, groupColumn, column)
		check(got, again)
		if !ok || !slices.Equal(got, want) || !slices.Equal(again, want) {
			t.Fatalf("%s: column %d of relation %d by column %d: %v, %v, want %v", databaseText(db), column, relation, groupColumn, got, ok, want)
		}
		counts[len(got)]++
	})
	for groups := range 4 {
		if counts[groups] < 20 {
			t.Error(counts)
		}
	}
}

func numbersUpTo(n int) []int {
	var numbers []int
	for number := range n {
		numbers = append(numbers, number)
	}
	return numbers
}

// TestGroupSumsOfEveryRepair checks that the sums lie within the ranges, that these are attained, and that a group of all
// repairs is in each of them.
func TestGroupSumsOfEveryRepair(t *testing.T) {
	groups := 0
	eachGroupColumn(func(db impl.Database, relation, groupColumn, column int) {
		ranges, _ := impl.GroupRanges(db, relation, groupColumn, column)
		for _, group := range ranges {
			isLow, isHigh, isInAll := false, false, true
			for _, repair := range repairsInOrder(db) {
				values := plainGroup(db, repair, relation, groupColumn, column, group.Value)
				total := plainSum(values)
				isLow, isHigh, isInAll = isLow || total == group.Min, isHigh || total == group.Max, isInAll && len(values) > 0
				if total < group.Min || total > group.Max || group.InAllRepairs && len(values) == 0 {
					t.Errorf("%s: the sum in %v is %d, not one of %v", databaseText(db), repair, total, group)
				}
			}
			if !isLow || !isHigh || isInAll != group.InAllRepairs {
				t.Errorf("%s: %v is not attained, or in all repairs is %v", databaseText(db), group, isInAll)
			}
			groups++
		}
	})
	if groups < 1000 {
		t.Errorf("only %d groups", groups)
	}
}

func TestGroupExamples(t *testing.T) {
	for _, c := range []struct {
		db                            string
		relation, groupColumn, column int
		want                          string
	}{
		{"u1/3:u0|15 u0|27 u1|13 u2|11 u2|12", 0, 1, 2, "1=4..10! 2=0..7"},
		{"u1/3:u0|15 u0|27 u1|13 u2|11 u2|12", 0, 0, 2, "0=5..7! 1=3..3! 2=1..2!"},
		{"u1/3:u0|15 u0|27 u1|13 u2|11 u2|12", 0, 2, 1, "1=0..1 2=0..1 3=1..1! 5=0..1 7=0..2"},
		{"u1/3:u0|15 u0|27 u1|13 u2|11 u2|12", 0, 1, 1, "1=2..3! 2=0..2"},
		{"u1/3:u0|10 u0|19 u1|10", 0, 1, 2, "1=0..9!"}, {"u1/3:", 0, 0, 0, ""}, {"r1/2 s1/2:s0|0", 0, 0, 1, ""},
		{"r1/2 s1/2:r0|1 s0|1 s0|2", 0, 1, 0, "1=0..0!"}, {"r1/2 s1/2:r0|1 s0|1 s0|2", 1, 1, 1, "1=0..1 2=0..2"},
		{"r0/2:r|09 r|15", 0, 0, 1, "0=0..9 1=0..5"}, {"r0/2:r|09 r|15", 0, 1, 0, "5=0..1 9=0..0"},
	} {
		db := database(c.db)
		got, ok := impl.GroupRanges(db, c.relation, c.groupColumn, c.column)
		if text := impl.FormatGroups(got); !ok || text != c.want {
			t.Errorf("%s: column %d of relation %d by column %d: %s, %v, want %s", c.db, c.column, c.relation, c.groupColumn, text, ok, c.want)
		}
	}
}

func TestValueOfOneFact(t *testing.T) {
	db := database("r1/2 s1/3:r0|1 r0|2 r1|3 r1|4 r1|5 r2|6 s0|12 s0|34 s5|67")
	for _, c := range []struct {
		relation, groupColumn, column, value, low, high int
		isInAll                                         bool
	}{
		{0, 1, 1, 1, 0, 1, false}, {0, 1, 1, 5, 0, 5, false}, {0, 1, 1, 6, 6, 6, true}, {0, 1, 0, 6, 2, 2, true}, {0, 0, 1, 2, 6, 6, true}, {0, 0, 1, 0, 1, 2, true},
		{1, 1, 2, 1, 0, 2, false}, {1, 1, 2, 3, 0, 4, false}, {1, 1, 2, 6, 7, 7, true}, {1, 2, 1, 7, 6, 6, true}, {1, 0, 2, 5, 7, 7, true}, {1, 0, 1, 0, 1, 3, true},
		{1, 0, 1, 9, 0, 0, false}, {0, 1, 1, 7, 0, 0, false},
	} {
		low, high, ok := impl.GroupSumRange(db, c.relation, c.groupColumn, c.column, c.value)
		isInAll := impl.GroupInAllRepairs(db, c.relation, c.groupColumn, c.value)
		if !ok || low != c.low || high != c.high || isInAll != c.isInAll {
			t.Errorf("%+v: %d, %d, %v, in all repairs %v", c, low, high, ok, isInAll)
		}
	}
}

// TestGroupOfSeveralBlocks has a group that is in all repairs only because of all facts of one block.
func TestGroupOfSeveralBlocks(t *testing.T) {
	for text, want := range map[string]bool{
		"r1/3:r0|10 r0|20 r1|10 r1|30": false, "r1/3:r0|10 r0|20 r1|10 r1|11": true, "r1/3:r0|10 r0|11 r1|20": true, "r1/3:r0|20 r1|30": false,
	} {
		if got := impl.GroupInAllRepairs(database(text), 0, 1, 1); got != want {
			t.Errorf("%s: %v", text, got)
		}
	}
}

func TestGroupsOfOtherColumns(t *testing.T) {
	db := database("a1/1 b1/2 c1/3:a3 b1|3 b1|4 c1|23 c1|24")
	for _, relation := range hostileInts {
		for _, groupColumn := range hostileInts {
			isGroup := hasColumn(db, relation, groupColumn)
			if !isGroup && impl.GroupInAllRepairs(db, relation, groupColumn, 1) {
				t.Errorf("a group in column %d of relation %d", groupColumn, relation)
			}
			for _, column := range hostileInts {
				want := isGroup && hasColumn(db, relation, column)
				low, high, ok := impl.GroupSumRange(db, relation, groupColumn, column, 1)
				groups, isFound := impl.GroupRanges(db, relation, groupColumn, column)
				if ok != want || isFound != want || !want && (low != 0 || high != 0 || len(groups) != 0) || want && len(groups) == 0 {
					t.Errorf("column %d of relation %d by column %d: %d, %d, %v and %v, %v", column, relation, groupColumn, low, high, ok, groups, isFound)
				}
			}
		}
	}
	for _, db := range invalidDatabases() {
		db = roomy(db)
		check := watch(t, db)
		for relation := range 3 {
			for column := range 3 {
				low, high, ok := impl.GroupSumRange(db, relation, 0, column, 0)
				groups, isFound := impl.GroupRanges(db, relation, column, 0)
				if ok || isFound || low != 0 || high != 0 || len(groups) != 0 || impl.GroupInAllRepairs(db, relation, column, 1) {
					t.Errorf("%v: %d, %d, %v and %v, %v", db, low, high, ok, groups, isFound)
				}
			}
		}
		check()
	}
}

func TestFormatGroups(t *testing.T) {
	for _, c := range []struct {
		groups []impl.GroupRange
		want   string
	}{
		{nil, ""}, {[]impl.GroupRange{{Value: 2, Max: 5, InAllRepairs: true}}, "2=0..5!"}, {[]impl.GroupRange{{}}, "0=0..0"},
		{[]impl.GroupRange{{Value: 9, Min: 8, Max: 3}, {Value: 9, InAllRepairs: true}, {Value: -1, Min: -2, Max: -3}}, "9=8..3 9=0..0! -1=-2..-3"},
	} {
		if got := impl.FormatGroups(c.groups); got != c.want {
			t.Errorf("%v: %q, want %q", c.groups, got, c.want)
		}
	}
	var groups []impl.GroupRange
	var texts []string
	for i, n := range hostileInts {
		group := impl.GroupRange{Value: n, Min: hostileInts[(i+1)%len(hostileInts)], Max: hostileInts[(i+5)%len(hostileInts)], InAllRepairs: i%3 == 0}
		text := strconv.Itoa(group.Value) + "=" + strconv.Itoa(group.Min) + ".." + strconv.Itoa(group.Max)
		if group.InAllRepairs {
			text += "!"
		}
		groups, texts = append(groups, group), append(texts, text)
	}
	groups = roomy(groups)
	check := watch(t, groups)
	if got, want := impl.FormatGroups(groups), strings.Join(texts, " "); got != want {
		t.Errorf("%q, want %q", got, want)
	}
	check()
}

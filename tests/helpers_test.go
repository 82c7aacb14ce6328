package tests

import (
	"math"
	"math/rand"
	"reflect"
	"slices"
	"strconv"
	"strings"
	"testing"

	"loop.example/g01918/impl"
)

// spareMark fills the unused capacity of the slices that roomy makes.
const spareMark = 77

// roomy returns a deep copy of v in which each slice has unused capacity, so that a stray append would show.
func roomy[T any](v T) T {
	return deepCopy(reflect.ValueOf(&v).Elem(), 3).Interface().(T)
}

// cloned returns a deep copy of v without unused capacity.
func cloned[T any](v T) T {
	return deepCopy(reflect.ValueOf(&v).Elem(), 0).Interface().(T)
}

func deepCopy(v reflect.Value, spare int) reflect.Value {
	copied := reflect.New(v.Type()).Elem()
	switch v.Kind() {
	case reflect.Slice:
		if v.IsNil() {
			return copied
		}
		copied = reflect.MakeSlice(v.Type(), v.Len()+spare, v.Len()+spare)
		for i := range v.Len() {
			copied.Index(i).Set(deepCopy(v.Index(i), spare))
		}
		for i := v.Len(); i < copied.Len(); i++ {
			mark(copied.Index(i))
		}
		return copied.Slice(0, v.Len())
	case reflect.Struct:
		for i := range v.NumField() {
			copied.Field(i).Set(deepCopy(v.Field(i), spare))
		}
		return copied
	}
	return v
}

func mark(v reflect.Value) {
	switch v.Kind() {
	case reflect.Int:
		v.SetInt(spareMark)
	case reflect.Bool:
		v.SetBool(true)
	case reflect.Struct:
		for i := range v.NumField() {
			mark(v.Field(i))
		}
	}
}

// dump describes a value and the unused capacity of its slices.
func dump(v reflect.Value) string {
	var text strings.Builder
	switch v.Kind() {
	case reflect.Slice:
		text.WriteString("[")
		for i := range v.Cap() {
			if i == v.Len() {
				text.WriteString("; spare")
			}
			text.WriteString(" " + dump(v.Slice(0, v.Cap()).Index(i)))
		}
		text.WriteString("]")
	case reflect.Struct:
		for i := range v.NumField() {
			text.WriteString("(" + dump(v.Field(i)) + ")")
		}
	case reflect.Int:
		text.WriteString(strconv.FormatInt(v.Int(), 10))
	case reflect.Bool:
		text.WriteString(strconv.FormatBool(v.Bool()))
	case reflect.String:
		text.WriteString(strconv.Quote(v.String()))
	}
	return text.String()
}

type memoryRange struct {
	start, end uintptr
}

// memoryOf lists the memory of all slices in v, with their unused capacity.
func memoryOf(v reflect.Value) []memoryRange {
	var ranges []memoryRange
	switch v.Kind() {
	case reflect.Slice:
		if v.Cap() > 0 {
			size := uintptr(v.Cap()) * v.Type().Elem().Size()
			ranges = append(ranges, memoryRange{v.Pointer(), v.Pointer() + size})
		}
		for i := range v.Len() {
			ranges = append(ranges, memoryOf(v.Index(i))...)
		}
	case reflect.Struct:
		for i := range v.NumField() {
			ranges = append(ranges, memoryOf(v.Field(i))...)
		}
	}
	return ranges
}

// reporter is the part of testing.T that watch needs.
type reporter interface {
	Helper()
	Errorf(format string, args ...any)
}

// watch remembers the arguments of a call. The returned function checks that they are as before, and that no slice of
// the results shares memory with them or with another slice of the results.
func watch(t reporter, args ...any) func(results ...any) {
	t.Helper()
	before := make([]string, len(args))
	var taken []memoryRange
	for i, arg := range args {
		before[i] = dump(reflect.ValueOf(arg))
		taken = append(taken, memoryOf(reflect.ValueOf(arg))...)
	}
	return func(results ...any) {
		t.Helper()
		for i, arg := range args {
			if after := dump(reflect.ValueOf(arg)); after != before[i] {
				t.Errorf("argument %d was changed from %s to %s", i, before[i], after)
			}
		}
		all := slices.Clone(taken)
		for _, result := range results {
			for _, r := range memoryOf(reflect.ValueOf(result)) {
				for _, other := range all {
					if r.start < other.end && other.start < r.end {
						t.Errorf("a result shares memory: %s", dump(reflect.ValueOf(result)))
					}
				}
				all = append(all, r)
			}
		}
	}
}

// hostileInts are the numbers next to the limits of the document and the extremes.
var hostileInts = []int{
	math.MinInt, math.MinInt + 1, -100, -11, -10, -9, -2, -1, 0, 1, 2, 3, 4, 5, 9, 10, 13, 14, 15, 63, 64, 65, 100,
	math.MaxInt - 1, math.MaxInt,
}

// oneByteEdits returns the strings that differ from s by one byte more, one less or another one.
func oneByteEdits(s string) []string {
	bytes := allBytes()
	var edits []string
	for i := range len(s) + 1 {
		for b := range len(bytes) {
			edits = append(edits, s[:i]+bytes[b:b+1]+s[i:])
			if i < len(s) {
				edits = append(edits, s[:i]+bytes[b:b+1]+s[i+1:])
			}
		}
		if i < len(s) {
			edits = append(edits, s[:i]+s[i+1:])
		}
	}
	return edits
}

// subsets returns all strictly ascending lists of numbers from 0 to n-1.
func subsets(n int) [][]int {
	var all [][]int
	for bits := range 1 << n {
		set := []int{}
		for i := range n {
			if bits>>i&1 == 1 {
				set = append(set, i)
			}
		}
		all = append(all, set)
	}
	return all
}

// badIndexLists returns lists that are not strictly ascending lists of numbers from 0 to n-1.
func badIndexLists(n int) [][]int {
	lists := [][]int{{-1}, {n}, {n + 1}, {math.MinInt}, {math.MaxInt}, {-1, 0}, {0, n}, {0, math.MaxInt}}
	if n > 0 {
		lists = append(lists, []int{0, 0}, []int{n - 1, n - 1}, []int{n - 1, n}, []int{-1, n - 1})
	}
	if n > 1 {
		lists = append(lists, []int{1, 0}, []int{n - 1, 0}, []int{0, n - 1, n - 1}, []int{0, n - 1, 0})
	}
	return lists
}

func equalLists(a, b [][]int) bool {
	return slices.EqualFunc(a, b, slices.Equal[[]int])
}

// sameDatabase compares field by field, without the program.
func sameDatabase(a, b impl.Database) bool {
	return slices.Equal(a.Relations, b.Relations) && slices.EqualFunc(a.Facts, b.Facts, sameFact)
}

func sameFact(a, b impl.Fact) bool {
	return a.Relation == b.Relation && slices.Equal(a.Values, b.Values)
}

func isZeroDatabase(db impl.Database) bool {
	return len(db.Relations) == 0 && len(db.Facts) == 0
}

func isZeroFact(fact impl.Fact) bool {
	return fact.Relation == 0 && len(fact.Values) == 0
}

// relation reads a relation such as r1/2, without the program.
func relation(s string) impl.Relation {
	return impl.Relation{Name: s[:1], KeyLength: int(s[1] - '0'), Arity: int(s[3] - '0')}
}

// schema reads relations that are separated by spaces, without the program.
func schema(s string) []impl.Relation {
	var relations []impl.Relation
	for _, part := range strings.Fields(s) {
		relations = append(relations, relation(part))
	}
	return relations
}

func fact(relation int, values ...int) impl.Fact {
	return impl.Fact{Relation: relation, Values: values}
}

// database reads a database such as r1/2:r1|2 r1|3, without the program.
func database(s string) impl.Database {
	head, body, _ := strings.Cut(s, ":")
	db := impl.Database{Relations: schema(head)}
	for _, part := range strings.Fields(body) {
		index := slices.IndexFunc(db.Relations, func(r impl.Relation) bool { return r.Name == part[:1] })
		var values []int
		for _, digit := range strings.ReplaceAll(part[1:], "|", "") {
			values = append(values, int(digit-'0'))
		}
		db.Facts = append(db.Facts, fact(index, values...))
	}
	return db
}

// factText formats a valid fact, without the program.
func factText(relations []impl.Relation, fact impl.Fact) string {
	r := relations[fact.Relation]
	text := r.Name
	for i, value := range fact.Values {
		if i == r.KeyLength {
			text += "|"
		}
		text += strconv.Itoa(value)
	}
	return text
}

// databaseText formats a valid database, without the program.
func databaseText(db impl.Database) string {
	var relations, facts []string
	for _, r := range db.Relations {
		relations = append(relations, r.Name+strconv.Itoa(r.KeyLength)+"/"+strconv.Itoa(r.Arity))
	}
	for _, f := range db.Facts {
		facts = append(facts, factText(db.Relations, f))
	}
	return strings.Join(relations, " ") + ":" + strings.Join(facts, " ")
}

// keyText tells the blocks apart, without the program.
func keyText(db impl.Database, index int) string {
	f := db.Facts[index]
	key := f.Values[:db.Relations[f.Relation].KeyLength]
	return strconv.Itoa(f.Relation) + "/" + dump(reflect.ValueOf(slices.Clone(key)))
}

// blocksByKey groups the facts of a valid database, without the program.
func blocksByKey(db impl.Database) [][]int {
	var blocks [][]int
	number := map[string]int{}
	for i := range db.Facts {
		key := keyText(db, i)
		if n, ok := number[key]; ok {
			blocks[n] = append(blocks[n], i)
		} else {
			number[key] = len(blocks)
			blocks = append(blocks, []int{i})
		}
	}
	return blocks
}

// smallDatabases returns all databases over eight facts with keys of length 0, 1 and the whole arity.
func smallDatabases() []impl.Database {
	all := database("r1/2 s0/1 t1/1:r0|0 r0|1 r1|0 r1|9 s|0 s|9 t0 t9")
	var databases []impl.Database
	for _, set := range subsets(len(all.Facts)) {
		databases = append(databases, part(all, set))
	}
	return databases
}

func part(db impl.Database, indices []int) impl.Database {
	selected := impl.Database{Relations: db.Relations}
	for _, index := range indices {
		selected.Facts = append(selected.Facts, db.Facts[index])
	}
	return selected
}

// eachIndexList visits valid databases of at most nine facts with all valid lists of indices and with some that are not.
func eachIndexList(visit func(db impl.Database, indices []int, isValid bool)) {
	for _, db := range validDatabases() {
		if len(db.Facts) > 9 {
			continue
		}
		db = roomy(db)
		for _, indices := range subsets(len(db.Facts)) {
			visit(db, roomy(indices), true)
		}
		for _, indices := range badIndexLists(len(db.Facts)) {
			visit(db, roomy(indices), false)
		}
	}
}

// randomDatabases returns valid databases of all sizes. The seed is fixed.
func randomDatabases(count int) []impl.Database {
	random := rand.New(rand.NewSource(5))
	schemas := []string{
		"", "r1/2", "a0/3 b1/3 c2/3 d3/3", "r0/1 s1/1 t1/2 u2/2", "q0/2 r1/2 s1/3", "m0/3", "a1/2 z1/2",
	}
	var databases []impl.Database
	for i := range count {
		db := impl.Database{Relations: schema(schemas[i%len(schemas)])}
		known := map[string]bool{}
		for range random.Intn(30) {
			if len(db.Relations) == 0 || len(db.Facts) == impl.MaxFacts {
				break
			}
			f := fact(random.Intn(len(db.Relations)))
			for range db.Relations[f.Relation].Arity {
				f.Values = append(f.Values, []int{0, 1, 2, 9}[random.Intn(4)])
			}
			if text := factText(db.Relations, f); !known[text] {
				known[text] = true
				db.Facts = append(db.Facts, f)
			}
		}
		slices.SortFunc(db.Facts, orderOfFacts)
		databases = append(databases, db)
	}
	return databases
}

// orderOfFacts is the order of the document for facts of the same schema, by their text.
func orderOfFacts(a, b impl.Fact) int {
	if a.Relation != b.Relation {
		return a.Relation - b.Relation
	}
	return slices.Compare(a.Values, b.Values)
}

// validDatabases returns the databases that most tests go through.
func validDatabases() []impl.Database {
	databases := append(smallDatabases(), randomDatabases(140)...)
	for _, s := range []string{
		":", "r1/2:", "a0/1 b0/1 c0/1 d0/1:",
		"r0/2:r|00 r|01 r|02 r|03 r|04 r|05 r|06 r|07 r|08 r|09 r|10 r|11 r|12 r|13",
		"r2/2:r00 r01 r02 r03 r04 r05 r06 r07 r08 r09 r10 r11 r12 r99",
		"r1/2:r0|0 r0|1 r0|2 r1|0 r1|1 r1|2 r2|0 r2|1 r2|2 r3|0 r3|1 r3|2 r4|0 r4|1",
		"r1/2:r0|0 r0|1 r1|0 r1|1 r2|0 r2|1 r3|0 r3|1 r4|0 r4|1 r5|0 r5|1 r6|0 r6|1",
	} {
		databases = append(databases, database(s))
	}
	return databases
}

// invalidSchemas returns lists of relations that are not valid.
func invalidSchemas() [][]impl.Relation {
	return [][]impl.Relation{
		{{}},
		{{Name: "R", Arity: 2, KeyLength: 1}},
		{{Name: "r", Arity: 4, KeyLength: 1}},
		{{Name: "r", Arity: 0, KeyLength: 0}},
		{{Name: "r", Arity: 2, KeyLength: 3}},
		{{Name: "r", Arity: 2, KeyLength: -1}},
		{{Name: "r", Arity: math.MaxInt, KeyLength: math.MinInt}},
		{{Name: "", Arity: 2, KeyLength: 1}},
		{{Name: "rr", Arity: 2, KeyLength: 1}},
		schema("s1/2 r1/2"),
		schema("r1/2 r1/2"),
		schema("r1/2 r2/2"),
		schema("r1/2 t1/2 s1/2"),
		schema("a1/2 b1/2 c1/2 d1/2 e1/2"),
		{relation("a1/2"), {Name: "b", Arity: 2, KeyLength: 3}},
	}
}

// invalidDatabases returns databases that break one rule each.
func invalidDatabases() []impl.Database {
	valid := database("r1/2 s1/2:r1|2 r1|3 s0|0")
	var databases []impl.Database
	for _, relations := range invalidSchemas() {
		databases = append(databases,
			impl.Database{Relations: relations},
			impl.Database{Relations: relations, Facts: []impl.Fact{fact(0, 1, 2)}})
	}
	for _, f := range []impl.Fact{
		fact(-1, 1, 2), fact(2, 1, 2), fact(math.MaxInt, 1, 2), fact(math.MinInt, 1, 2),
		fact(1), fact(1, 1), fact(1, 1, 2, 3), fact(1, 1, 10), fact(1, 1, -1), fact(1, 10, 1), fact(1, -1, 1),
		fact(1, 1, math.MaxInt), fact(1, math.MinInt, 1),
	} {
		databases = append(databases,
			impl.Database{Relations: valid.Relations, Facts: []impl.Fact{f}},
			impl.Database{Relations: valid.Relations, Facts: []impl.Fact{valid.Facts[0], f}},
			impl.Database{Relations: valid.Relations, Facts: []impl.Fact{f, fact(1, 9, 9)}})
	}
	for _, s := range []string{
		"r1/2 s1/2:r1|3 r1|2", "r1/2 s1/2:s0|0 r1|2", "r1/2 s1/2:r1|2 r1|2", "r1/2 s1/2:r1|2 s0|0 s0|0", "r1/2:r2|0 r1|0",
		"r0/2:r|00 r|01 r|02 r|03 r|04 r|05 r|06 r|07 r|08 r|09 r|10 r|11 r|12 r|13 r|14",
		"r1/2 s1/2:r0|0 r0|2 r0|1",
	} {
		databases = append(databases, database(s))
	}
	return append(databases, impl.Database{Facts: []impl.Fact{fact(0, 1, 2)}})
}

// counter counts what is reported.
type counter int

func (c *counter) Helper() {}

func (c *counter) Errorf(string, ...any) { *c++ }

func TestWatch(t *testing.T) {
	numbers := roomy([]int{1, 2})
	var reports counter
	watch(&reports, numbers)(append(numbers[:1:1], 5), []int{1, 2})
	if reports != 0 {
		t.Error("new memory is reported")
	}
	watch(&reports, numbers)(numbers[2:3])
	if reports != 1 {
		t.Error("memory shared with an argument is not reported")
	}
	watch(&reports)([][]int{numbers[:1], numbers[1:]})
	if reports != 2 {
		t.Error("memory shared by two slices of a result is not reported")
	}
	check := watch(&reports, impl.Fact{Values: numbers})
	_ = append(numbers, 5)
	check()
	if reports != 3 {
		t.Error("a change in the unused capacity is not reported")
	}
}

package tests

import (
	"cmp"
	"math"
	"slices"
	"strings"
	"testing"

	"loop.example/g01918/impl"
)

var factSchemas = []string{"r1/2 s1/2 t2/2", "a0/1 b1/1 c0/2", "a0/3", "a1/3", "a2/3", "a3/3", "r1/2 s0/1 t1/1 u2/2", "z0/2"}

// factsOf returns all facts of a valid schema by their strings.
func factsOf(relations []impl.Relation) map[string]impl.Fact {
	known := map[string]impl.Fact{}
	for i, r := range relations {
		rows := [][]int{nil}
		for range r.Arity {
			var longer [][]int
			for _, row := range rows {
				for value := range 10 {
					longer = append(longer, append(slices.Clone(row), value))
				}
			}
			rows = longer
		}
		for _, row := range rows {
			f := fact(i, row...)
			known[factText(relations, f)] = f
		}
	}
	return known
}

// oddFacts returns facts that no schema of two relations of arity 2 has, and some that it has.
func oddFacts() []impl.Fact {
	facts := []impl.Fact{
		fact(0, 1, 2), fact(0, 1, 3), fact(0, 2, 2), fact(1, 1, 2), fact(1, 1, 3), fact(0, 0, 0), fact(1, 9, 9), fact(0, 9, 0),
		fact(0), fact(1), fact(0, 1), fact(1, 1), fact(0, 1, 2, 3), fact(1, 1, 2, 0),
	}
	for _, n := range hostileInts {
		facts = append(facts, fact(n), fact(n, 1, 2), fact(0, n), fact(0, n, 2), fact(0, 1, n), fact(1, n, n), fact(0, 1, 2, n))
	}
	return facts
}

func isPlainFact(relations []impl.Relation, f impl.Fact) bool {
	if f.Relation < 0 || f.Relation >= len(relations) || len(f.Values) != relations[f.Relation].Arity {
		return false
	}
	return !slices.ContainsFunc(f.Values, func(value int) bool { return value < 0 || value > 9 })
}

func TestIsValidFact(t *testing.T) {
	if impl.MaxValue != 9 {
		t.Error(impl.MaxValue)
	}
	for _, s := range append(factSchemas, "", "r1/2", "r1/2 s1/2", "r1/1 s1/3") {
		relations := roomy(schema(s))
		for _, f := range oddFacts() {
			f = roomy(f)
			check := watch(t, relations, f)
			if got, want := impl.IsValidFact(relations, f), isPlainFact(relations, f); got != want {
				t.Errorf("IsValidFact(%s, %v) = %v", s, f, got)
			}
			check()
		}
		for text, f := range factsOf(relations) {
			if !impl.IsValidFact(relations, f) {
				t.Errorf("%s is refused", text)
			}
		}
	}
}

func TestIsValidFactValueTooLarge(t *testing.T) {
	relations := schema("a1/1 b1/2 c1/3")
	for i := range relations {
		for column := range i + 1 {
			for value, want := range map[int]bool{-1: false, 0: true, 9: true, 10: false} {
				f := fact(i, make([]int, i+1)...)
				f.Values[column] = value
				if got := impl.IsValidFact(relations, f); got != want {
					t.Errorf("IsValidFact(%v) = %v", f, got)
				}
				if text := impl.FormatFact(relations, f); (text != "") != want {
					t.Errorf("FormatFact(%v) = %q", f, text)
				}
				if key := impl.KeyOf(relations, f); (len(key) == 1) != want {
					t.Errorf("KeyOf(%v) = %v", f, key)
				}
				if impl.HaveSameKey(relations, f, f) != want {
					t.Errorf("HaveSameKey(%v)", f)
				}
			}
		}
	}
	if f, ok := impl.ParseFact(relations, "b1|10"); ok || !isZeroFact(f) {
		t.Error(f)
	}
}

func TestFactsOfInvalidRelations(t *testing.T) {
	for _, relations := range invalidSchemas() {
		for _, f := range []impl.Fact{fact(0, 1, 2), fact(1, 1, 2), fact(0), fact(0, 1), fact(0, 1, 2, 3, 4)} {
			if impl.IsValidFact(relations, f) || impl.FormatFact(relations, f) != "" || len(impl.KeyOf(relations, f)) != 0 || impl.HaveSameKey(relations, f, f) {
				t.Errorf("%v is a fact of %v", f, relations)
			}
		}
		for _, s := range []string{"", "r1|2", "s1|2", "a1|2", "r12", "R1|2", "rr1|2", "r", "1|2", "|12"} {
			if f, ok := impl.ParseFact(relations, s); ok || !isZeroFact(f) {
				t.Errorf("%s is a fact %v of %v", s, f, relations)
			}
		}
	}
}

// wantOrder compares facts without the program.
func wantOrder(a, b impl.Fact) int {
	if a.Relation != b.Relation {
		return cmp.Compare(a.Relation, b.Relation)
	}
	for i := range min(len(a.Values), len(b.Values)) {
		if a.Values[i] != b.Values[i] {
			return cmp.Compare(a.Values[i], b.Values[i])
		}
	}
	return cmp.Compare(len(a.Values), len(b.Values))
}

func TestCompareFacts(t *testing.T) {
	cases := []struct {
		a, b impl.Fact
		want int
	}{
		{fact(0, 1, 2), fact(0, 1, 2), 0},
		{fact(0), impl.Fact{Values: []int{}}, 0},
		{fact(0, 9, 9), fact(1, 0, 0), -1},
		{fact(0, 1, 2), fact(0, 1, 3), -1},
		{fact(0, 2, 0), fact(0, 1, 9), 1},
		{fact(0, 1), fact(0, 1, 0), -1},
		{fact(0), fact(0, -5), -1},
		{fact(0, 2), fact(0, 1, 9, 9), 1},
		{fact(math.MinInt), fact(math.MaxInt), -1},
		{fact(0, math.MaxInt), fact(0, math.MinInt), 1},
	}
	for _, c := range cases {
		if got := impl.CompareFacts(c.a, c.b); got != c.want {
			t.Errorf("CompareFacts(%v, %v) = %d", c.a, c.b, got)
		}
		if got := impl.CompareFacts(c.b, c.a); got != -c.want {
			t.Errorf("CompareFacts(%v, %v) = %d", c.b, c.a, got)
		}
	}
	facts := oddFacts()
	for _, a := range facts {
		for _, b := range facts {
			if got := impl.CompareFacts(a, b); got != wantOrder(a, b) {
				t.Fatalf("CompareFacts(%v, %v) = %d", a, b, got)
			}
		}
	}
}

func TestCompareFactsChangesNothing(t *testing.T) {
	a, b := roomy(fact(3, 4, 5)), roomy(fact(3, 4))
	check := watch(t, a, b)
	if impl.CompareFacts(a, b) != 1 {
		t.Error(a, b)
	}
	check()
}

func TestHaveSameKey(t *testing.T) {
	for _, s := range []string{"r1/2 s1/2", "r0/2 s2/2", "r0/1 s1/3", "r1/2", ""} {
		relations := roomy(schema(s))
		for _, a := range oddFacts() {
			for _, b := range oddFacts() {
				want := isPlainFact(relations, a) && isPlainFact(relations, b) && a.Relation == b.Relation
				if want {
					length := relations[a.Relation].KeyLength
					want = slices.Equal(a.Values[:length], b.Values[:length])
				}
				if got := impl.HaveSameKey(relations, a, b); got != want {
					t.Fatalf("HaveSameKey(%s, %v, %v) = %v", s, a, b, got)
				}
			}
		}
	}
	three := schema("a0/3 b1/3 c2/3 d3/3")
	for i := range three {
		for differing := range 3 {
			other := fact(i, 4, 5, 6)
			other.Values[differing] = 7
			if got := impl.HaveSameKey(three, fact(i, 4, 5, 6), other); got != (differing >= i) {
				t.Errorf("key length %d, column %d: %v", i, differing, got)
			}
		}
	}
}

func TestKeyOf(t *testing.T) {
	for _, s := range factSchemas {
		relations := roomy(schema(s))
		for text, f := range factsOf(relations) {
			f = roomy(f)
			check := watch(t, relations, f)
			key, again := impl.KeyOf(relations, f), impl.KeyOf(relations, f)
			check(key, again)
			if want := f.Values[:relations[f.Relation].KeyLength]; !slices.Equal(key, want) || !slices.Equal(again, want) {
				t.Fatalf("KeyOf(%s) = %v", text, key)
			}
		}
		for _, f := range oddFacts() {
			if key := impl.KeyOf(relations, f); !isPlainFact(relations, f) && len(key) != 0 {
				t.Errorf("KeyOf(%v) = %v", f, key)
			}
		}
	}
}

func TestFormatFact(t *testing.T) {
	for _, c := range []struct {
		schema string
		fact   impl.Fact
		want   string
	}{
		{"r1/2", fact(0, 1, 2), "r1|2"},
		{"r1/2 s1/2", fact(1, 1, 9), "s1|9"},
		{"r2/2", fact(0, 1, 2), "r12"},
		{"r0/2", fact(0, 1, 2), "r|12"},
		{"r0/1", fact(0, 0), "r|0"},
		{"r1/3", fact(0, 1, 2, 3), "r1|23"},
		{"r2/3", fact(0, 1, 2, 3), "r12|3"},
		{"r1/2", fact(0, 1, 10), ""},
		{"r1/2", fact(1, 1, 2), ""},
		{"", fact(0), ""},
	} {
		if got := impl.FormatFact(schema(c.schema), c.fact); got != c.want {
			t.Errorf("FormatFact(%s, %v) = %q, want %q", c.schema, c.fact, got, c.want)
		}
	}
	for _, s := range factSchemas {
		relations := schema(s)
		for _, f := range oddFacts() {
			if got := impl.FormatFact(relations, f); !isPlainFact(relations, f) && got != "" {
				t.Errorf("FormatFact(%s, %v) = %q", s, f, got)
			}
		}
	}
}

func TestParseFactInverse(t *testing.T) {
	for _, s := range factSchemas {
		relations := roomy(schema(s))
		check := watch(t, relations)
		for text, want := range factsOf(relations) {
			if got := impl.FormatFact(relations, want); got != text {
				t.Fatalf("FormatFact(%v) = %q, want %q", want, got, text)
			}
			got, ok := impl.ParseFact(relations, text)
			again, _ := impl.ParseFact(relations, text)
			if !ok || !sameFact(got, want) || !sameFact(again, want) {
				t.Fatalf("ParseFact(%s, %q) = %v, %v", s, text, got, ok)
			}
			check(got, again)
		}
	}
}

func TestParseFactNothingElse(t *testing.T) {
	common := []string{
		"r-1|2", "r+1|2", "r1 |2", "r1|2\n", "r1|2 r1|3", "r\u0661|2", "r1|\u0662", "\u00e41|2", "r1\x00|2", "r||12", "r1||2", "r12|",
		"r|", "|", "|12", strings.Repeat("|", 5000), "r" + strings.Repeat("1", 5000), strings.Repeat("r", 5000), "r1|2" + strings.Repeat("|", 5000),
		"rx|y", "r1|y", "\xff", "r\xff|1", "r1|\xff", "\x00",
	}
	common = append(common, stringsOver("rab19|z", 5)...)
	for _, s := range factSchemas {
		relations := schema(s)
		known := factsOf(relations)
		texts := slices.Clone(common)
		for text, f := range known {
			if !slices.ContainsFunc(f.Values, func(value int) bool { return value != 0 && value != 9 }) {
				texts = append(texts, oneByteEdits(text)...)
			}
		}
		for _, text := range texts {
			want, wantOK := known[text]
			if got, ok := impl.ParseFact(relations, text); ok != wantOK || !sameFact(got, want) {
				t.Fatalf("ParseFact(%s, %q) = %v, %v", s, text, got, ok)
			}
		}
	}
	for _, text := range common {
		if got, ok := impl.ParseFact(nil, text); ok || !isZeroFact(got) {
			t.Errorf("ParseFact without relations, %q: %v", text, got)
		}
	}
}

package tests

import (
	"math"
	"slices"
	"strconv"
	"strings"
	"testing"

	"loop.example/g01918/impl"
)

// validRelations returns all valid relations by their strings.
func validRelations() map[string]impl.Relation {
	known := map[string]impl.Relation{}
	for letter := 'a'; letter <= 'z'; letter++ {
		for _, s := range []string{"0/1", "1/1", "0/2", "1/2", "2/2", "0/3", "1/3", "2/3", "3/3"} {
			known[string(letter)+s] = relation(string(letter) + s)
		}
	}
	return known
}

func TestRelationLimits(t *testing.T) {
	if impl.MaxRelations != 4 || impl.MaxArity != 3 {
		t.Error(impl.MaxRelations, impl.MaxArity)
	}
}

func TestIsValidRelation(t *testing.T) {
	names := []string{"", "`", "{", "A", "Z", "R", "0", " ", "_", "rr", "ra", "r ", " r", "r1", "\u00e4", "\xff", "r\x00", "\x00", strings.Repeat("r", 1000)}
	for letter := 'a'; letter <= 'z'; letter++ {
		names = append(names, string(letter))
	}
	numbers := append([]int{math.MinInt + 1, math.MaxInt - 1}, hostileInts...)
	known := validRelations()
	count := 0
	for _, name := range names {
		for _, arity := range numbers {
			for _, keyLength := range numbers {
				r := impl.Relation{Name: name, Arity: arity, KeyLength: keyLength}
				text := name + strconv.Itoa(keyLength) + "/" + strconv.Itoa(arity)
				want, ok := known[text]
				if got := impl.IsValidRelation(r); got != ok {
					t.Fatalf("IsValidRelation(%+v) = %v", r, got)
				}
				if !ok {
					text = ""
				} else if count++; want != r {
					t.Fatal(want, r)
				}
				if got := impl.FormatRelation(r); got != text {
					t.Fatalf("FormatRelation(%+v) = %q, want %q", r, got, text)
				}
			}
		}
	}
	if count != 26*9 {
		t.Error(count)
	}
}

func TestAreValidRelations(t *testing.T) {
	for _, s := range []string{"", "r1/2", "r0/1", "a0/1 z3/3", "r1/2 s1/2 t2/2", "a0/1 b0/1 c0/1 d0/1", "w3/3 x2/3 y1/3 z0/3"} {
		relations := roomy(schema(s))
		check := watch(t, relations)
		if !impl.AreValidRelations(relations) {
			t.Errorf("%s is refused", s)
		}
		check()
	}
	for _, relations := range invalidSchemas() {
		if impl.AreValidRelations(relations) {
			t.Errorf("%v is accepted", relations)
		}
	}
	for i := range 4 {
		relations := schema("a1/2 b1/2 c1/2 d1/2")
		relations[i].Arity = 4
		if impl.AreValidRelations(relations) {
			t.Errorf("an invalid relation %d is accepted", i)
		}
		relations = schema("a1/2 b1/2 c1/2 d1/2")
		relations[i].Name = relations[(i+1)%4].Name
		if impl.AreValidRelations(relations) {
			t.Errorf("a name that occurs twice, at %d, is accepted", i)
		}
	}
	if !impl.AreValidRelations(nil) || !impl.AreValidRelations([]impl.Relation{}) {
		t.Error("no relations are refused")
	}
}

func TestRelationIndex(t *testing.T) {
	relations := roomy(append(schema("r1/2 s0/1 t1/1 s3/3"), impl.Relation{Name: "RR", Arity: 9, KeyLength: -1}, impl.Relation{}, impl.Relation{Name: "RR"}))
	check := watch(t, relations)
	for name, want := range map[string]int{"r": 0, "s": 1, "t": 2, "RR": 4, "": 5, "q": -1, "R": -1, "rs": -1, "r ": -1, "\xff": -1} {
		if got := impl.RelationIndex(relations, name); got != want {
			t.Errorf("RelationIndex(%q) = %d, want %d", name, got, want)
		}
	}
	check()
	if impl.RelationIndex(nil, "r") != -1 || impl.RelationIndex(nil, "") != -1 {
		t.Error("an index where there are no relations")
	}
}

func TestParseRelation(t *testing.T) {
	if got, ok := impl.ParseRelation("r1/2"); !ok || got != (impl.Relation{Name: "r", Arity: 2, KeyLength: 1}) {
		t.Error(got, ok)
	}
	for s, want := range validRelations() {
		if got, ok := impl.ParseRelation(s); !ok || got != want {
			t.Errorf("ParseRelation(%q) = %+v, %v", s, got, ok)
		}
	}
}

func TestParseRelationKeyOfLengthZero(t *testing.T) {
	for _, s := range []string{"r0/1", "r0/2", "r0/3"} {
		got, ok := impl.ParseRelation(s)
		if !ok || got.KeyLength != 0 || got.Arity != int(s[3]-'0') || !impl.IsValidRelation(got) || impl.FormatRelation(got) != s {
			t.Errorf("ParseRelation(%q) = %+v, %v", s, got, ok)
		}
	}
	if got, ok := impl.ParseRelation("r0/0"); ok || got != (impl.Relation{}) {
		t.Error("an arity of 0 is accepted")
	}
}

func TestParseRelationNothingElse(t *testing.T) {
	known := validRelations()
	texts := stringsOver("rz1023/4 R|", 4)
	for s := range known {
		texts = append(texts, oneByteEdits(s)...)
		texts = append(texts, s+" "+s, s+s, s+"\n", "\u0072\u0301"+s[1:])
	}
	texts = append(texts, "r01/2", "r1/02", "r+1/2", "r1/+2", "r-1/2", "r1//2", "r/12", "r1/2/", "r\u0661/2", "r1/\u0662", strings.Repeat("r1/2", 10000))
	for _, s := range texts {
		want, wantOK := known[s]
		if got, ok := impl.ParseRelation(s); got != want || ok != wantOK {
			t.Fatalf("ParseRelation(%q) = %+v, %v", s, got, ok)
		}
	}
}

func TestRelationsAreNotSorted(t *testing.T) {
	relations := schema("t1/2 r1/2 s1/2")
	before := slices.Clone(relations)
	if impl.AreValidRelations(relations) || impl.RelationIndex(relations, "r") != 1 || !slices.Equal(relations, before) {
		t.Error(relations)
	}
}

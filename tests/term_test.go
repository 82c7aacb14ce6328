package tests

import (
	"math"
	"strings"
	"testing"

	"loop.example/g01918/impl"
)

// termTexts are the strings of all terms that have one.
var termTexts = map[int]string{
	0: "x", 1: "y", 2: "z", 3: "w",
	-1: "0", -2: "1", -3: "2", -4: "3", -5: "4", -6: "5", -7: "6", -8: "7", -9: "8", -10: "9",
}

func TestIsVariable(t *testing.T) {
	for n, want := range map[int]bool{0: true, 1: true, 3: true, 4: true, math.MaxInt: true, -1: false, -10: false, -11: false, math.MinInt: false} {
		if impl.IsVariable(n) != want {
			t.Errorf("IsVariable(%d) = %v", n, !want)
		}
	}
}

func TestConstantTerm(t *testing.T) {
	for v, want := range map[int]int{0: -1, 3: -4, 9: -10, 10: -11, -1: 0, -5: 4, math.MaxInt: math.MinInt, math.MinInt: math.MaxInt, math.MaxInt - 1: math.MinInt + 1} {
		if got := impl.ConstantTerm(v); got != want {
			t.Errorf("ConstantTerm(%d) = %d, want %d", v, got, want)
		}
	}
}

func TestTermValue(t *testing.T) {
	for _, n := range append([]int{-8, -7, -6, -5, -4, -3, -12}, hostileInts...) {
		want, wantOK := 0, n <= -1 && n >= -10
		if wantOK {
			want = -1 - n
		}
		if got, ok := impl.TermValue(n); got != want || ok != wantOK {
			t.Errorf("TermValue(%d) = %d, %v", n, got, ok)
		}
	}
	for v := range 10 {
		if got, ok := impl.TermValue(impl.ConstantTerm(v)); !ok || got != v || impl.IsVariable(impl.ConstantTerm(v)) {
			t.Errorf("the constant %d has the value %d, %v", v, got, ok)
		}
	}
}

func TestFormatTerm(t *testing.T) {
	numbers := append([]int{-8, -7, -6, -5, -4, -3, -12, 6, 7, 8}, hostileInts...)
	for _, n := range numbers {
		if got := impl.FormatTerm(n); got != termTexts[n] {
			t.Errorf("FormatTerm(%d) = %q, want %q", n, got, termTexts[n])
		}
	}
}

func TestNeitherVariableNorConstant(t *testing.T) {
	for _, n := range []int{-11, -12, -100, math.MinInt, math.MinInt + 1} {
		if value, ok := impl.TermValue(n); ok || value != 0 || impl.IsVariable(n) || impl.FormatTerm(n) != "" {
			t.Errorf("%d is a term", n)
		}
	}
	for _, n := range []int{4, 5, 9, math.MaxInt} {
		if value, ok := impl.TermValue(n); ok || value != 0 || impl.FormatTerm(n) != "" {
			t.Errorf("%d has a value %d or a string", n, value)
		}
	}
}

func TestParseTerm(t *testing.T) {
	known := map[string]int{}
	for n, s := range termTexts {
		known[s] = n
		if got := impl.FormatTerm(n); got != s {
			t.Errorf("FormatTerm(%d) = %q", n, got)
		}
	}
	texts := append(stringsOver(allBytes(), 2), stringsOver("xyzw019-v", 4)...)
	texts = append(texts, "\u0661", "\u0445", "x\u0301", "xyzw", "+1", "-0", "-1", "1.0", strings.Repeat("x", 10000))
	for _, s := range texts {
		want, wantOK := known[s]
		if got, ok := impl.ParseTerm(s); got != want || ok != wantOK {
			t.Fatalf("ParseTerm(%q) = %d, %v, want %d, %v", s, got, ok, want, wantOK)
		}
	}
	if got, ok := impl.ParseTerm(""); got != 0 || ok {
		t.Errorf("the empty string: %d, %v", got, ok)
	}
}

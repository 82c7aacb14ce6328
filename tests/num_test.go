package tests

import (
	"math"
	"strings"
	"testing"

	"loop.example/g01918/impl"
)

// stringsOver returns all strings of at most the given length over the alphabet.
func stringsOver(alphabet string, length int) []string {
	all := []string{""}
	last := all
	for range length {
		var next []string
		for _, s := range last {
			for i := range len(alphabet) {
				next = append(next, s+alphabet[i:i+1])
			}
		}
		all = append(all, next...)
		last = next
	}
	return all
}

// allBytes returns a string with each byte once.
func allBytes() string {
	b := make([]byte, 256)
	for i := range b {
		b[i] = byte(i)
	}
	return string(b)
}

func TestEncodeFixed(t *testing.T) {
	cases := []struct {
		n, width int
		want     string
	}{
		{258, 2, "\x01\x02"},
		{0, 1, "\x00"},
		{255, 1, "\xff"},
		{7, 3, "\x00\x00\x07"},
		{0x01020304050607, 7, "\x01\x02\x03\x04\x05\x06\x07"},
		{0, 7, "\x00\x00\x00\x00\x00\x00\x00"},
		{256, 1, ""},
		{0, 0, ""},
		{0, -1, ""},
		{0, 8, ""},
		{1, 9, ""},
		{0, math.MaxInt, ""},
		{0, math.MinInt, ""},
		{-1, 1, ""},
		{-1, 7, ""},
		{-256, 1, ""},
		{math.MaxInt, 7, ""},
		{math.MinInt, 7, ""},
	}
	for _, c := range cases {
		if got := impl.EncodeFixed(c.n, c.width); got != c.want {
			t.Errorf("EncodeFixed(%d, %d) = %q, want %q", c.n, c.width, got, c.want)
		}
	}
}

func TestEncodeFixedLimits(t *testing.T) {
	for width := 1; width <= 7; width++ {
		limit := 1<<(8*width) - 1
		if got, want := impl.EncodeFixed(limit, width), strings.Repeat("\xff", width); got != want {
			t.Errorf("EncodeFixed(%d, %d) = %q, want %q", limit, width, got, want)
		}
		if got := impl.EncodeFixed(limit+1, width); got != "" {
			t.Errorf("EncodeFixed(%d, %d) = %q beyond the limit", limit+1, width, got)
		}
		if got := impl.EncodeFixed(-1, width); got != "" {
			t.Errorf("EncodeFixed(-1, %d) = %q", width, got)
		}
	}
}

func TestDecodeFixed(t *testing.T) {
	cases := []struct {
		s     string
		width int
		n     int
		ok    bool
	}{
		{"\x01\x02", 2, 258, true},
		{"\x01\x02\x03", 2, 258, true},
		{"\x01\x02\x03", 1, 1, true},
		{"\x00\x00\x07", 3, 7, true},
		{"\xff\xff\xff\xff\xff\xff\xff", 7, 1<<56 - 1, true},
		{"\xff\xff\xff\xff\xff\xff\xff\xff", 7, 1<<56 - 1, true},
		{"", 1, 0, false},
		{"a", 2, 0, false},
		{"abcdef", 7, 0, false},
		{"", 0, 0, false},
		{"abcdefghij", 0, 0, false},
		{"abcdefghij", -1, 0, false},
		{"abcdefghij", 8, 0, false},
		{"abcdefghij", 9, 0, false},
		{"abcdefghij", math.MaxInt, 0, false},
		{"abcdefghij", math.MinInt, 0, false},
	}
	for _, c := range cases {
		if n, ok := impl.DecodeFixed(c.s, c.width); n != c.n || ok != c.ok {
			t.Errorf("DecodeFixed(%q, %d) = %d, %v, want %d, %v", c.s, c.width, n, ok, c.n, c.ok)
		}
	}
}

func TestFixedInverse(t *testing.T) {
	for n := range 1 << 16 {
		s := impl.EncodeFixed(n, 2)
		if got, ok := impl.DecodeFixed(s, 2); len(s) != 2 || got != n || !ok {
			t.Fatalf("%d as %q comes back as %d, %v", n, s, got, ok)
		}
	}
	for width := 1; width <= 7; width++ {
		for bit := range 8 * width {
			for _, n := range []int{1 << bit, 1<<bit - 1, 1<<bit | 1, 1<<(8*width) - 1 - 1<<bit} {
				s := impl.EncodeFixed(n, width)
				if got, ok := impl.DecodeFixed(s+"rest", width); len(s) != width || got != n || !ok {
					t.Errorf("%d in width %d as %q comes back as %d, %v", n, width, s, got, ok)
				}
				if got, ok := impl.DecodeFixed(s[1:], width); got != 0 || ok {
					t.Errorf("DecodeFixed(%q, %d) = %d, %v", s[1:], width, got, ok)
				}
			}
		}
	}
}

func TestEncodeVarint(t *testing.T) {
	cases := []struct {
		n    int
		want string
	}{
		{0, "\x00"},
		{1, "\x01"},
		{127, "\x7f"},
		{128, "\x80\x01"},
		{300, "\xac\x02"},
		{16383, "\xff\x7f"},
		{16384, "\x80\x80\x01"},
		{1 << 42, "\x80\x80\x80\x80\x80\x80\x01"},
		{impl.MaxVarint, "\xff\xff\xff\xff\xff\xff\x7f"},
		{impl.MaxVarint - 1, "\xfe\xff\xff\xff\xff\xff\x7f"},
		{impl.MaxVarint + 1, ""},
		{math.MaxInt, ""},
		{-1, ""},
		{-128, ""},
		{math.MinInt, ""},
	}
	for _, c := range cases {
		if got := impl.EncodeVarint(c.n); got != c.want {
			t.Errorf("EncodeVarint(%d) = %q, want %q", c.n, got, c.want)
		}
	}
	if impl.MaxVarint != 562949953421311 {
		t.Errorf("MaxVarint = %d", impl.MaxVarint)
	}
}

func TestDecodeVarint(t *testing.T) {
	cases := []struct {
		s         string
		n, length int
	}{
		{"\x00", 0, 1},
		{"\x7f", 127, 1},
		{"\x80\x01", 128, 2},
		{"\xac\x02", 300, 2},
		{"\xac\x02z", 300, 2},
		{"\xac\x02\xac\x02", 300, 2},
		{"\x00\x00", 0, 1},
		{"\x05\x80", 5, 1},
		{"\xff\xff\xff\xff\xff\xff\x7f", impl.MaxVarint, 7},
		{"\xff\xff\xff\xff\xff\xff\x7f\xff", impl.MaxVarint, 7},
		{"\x80\x80\x80\x80\x80\x80\x01", 1 << 42, 7},
		{"", 0, 0},
		{"\x80", 0, 0},
		{"\xff\xff\xff\xff\xff\xff", 0, 0},
		{"\xff\xff\xff\xff\xff\xff\xff", 0, 0},
		// One beyond MaxVarint would need an eighth byte.
		{"\x80\x80\x80\x80\x80\x80\x80\x01", 0, 0},
		{"\xff\xff\xff\xff\xff\xff\xff\x7f", 0, 0},
		{"\xff\xff\xff\xff\xff\xff\xff\xff\xff\x01", 0, 0},
		// Encodings that are longer than necessary.
		{"\x80\x00", 0, 0},
		{"\x81\x00", 0, 0},
		{"\xff\x00", 0, 0},
		{"\xac\x82\x00", 0, 0},
		{"\x80\x80\x80\x80\x80\x80\x00", 0, 0},
		{"\xff\xff\xff\xff\xff\xff\xff\x00", 0, 0},
		{strings.Repeat("\x80", 70) + "\x01", 0, 0},
		{strings.Repeat("\xff", 1000), 0, 0},
	}
	for _, c := range cases {
		if n, length := impl.DecodeVarint(c.s); n != c.n || length != c.length {
			t.Errorf("DecodeVarint(%q) = %d, %d, want %d, %d", c.s, n, length, c.n, c.length)
		}
	}
}

func TestVarintInverse(t *testing.T) {
	var numbers []int
	for n := range 40000 {
		numbers = append(numbers, n)
	}
	for bit := range 49 {
		numbers = append(numbers, 1<<bit, 1<<bit-1, 1<<bit|1, impl.MaxVarint-1<<bit)
	}
	for _, n := range numbers {
		s := impl.EncodeVarint(n)
		if got, length := impl.DecodeVarint(s); s == "" || got != n || length != len(s) {
			t.Errorf("%d as %q comes back as %d, %d", n, s, got, length)
		}
		if got, length := impl.DecodeVarint(s + "\x80rest"); got != n || length != len(s) {
			t.Errorf("%d as %q with a rest comes back as %d, %d", n, s, got, length)
		}
		for cut := range len(s) {
			if got, length := impl.DecodeVarint(s[:cut]); got != 0 || length != 0 {
				t.Errorf("DecodeVarint(%q) = %d, %d", s[:cut], got, length)
			}
		}
	}
}

// TestVarintNothingElse compares the decoder with the list of all varints of at most two bytes.
func TestVarintNothingElse(t *testing.T) {
	known := map[string]int{}
	for n := range 1 << 14 {
		known[impl.EncodeVarint(n)] = n
	}
	if len(known) != 1<<14 {
		t.Fatal("two numbers have the same varint")
	}
	for _, s := range stringsOver(allBytes(), 2) {
		n, length := impl.DecodeVarint(s)
		wantN, wantLength := 0, 0
		for cut := 1; cut <= len(s); cut++ {
			if k, ok := known[s[:cut]]; ok {
				wantN, wantLength = k, cut
				break
			}
		}
		if n != wantN || length != wantLength {
			t.Fatalf("DecodeVarint(%q) = %d, %d, want %d, %d", s, n, length, wantN, wantLength)
		}
	}
}

func TestEncodeHex(t *testing.T) {
	cases := []struct{ s, want string }{
		{"", ""},
		{"a\xff", "61ff"},
		{"\x00", "00"},
		{"\x0f\xf0", "0ff0"},
		{"\x01\x23\x45\x67\x89\xab\xcd\xef", "0123456789abcdef"},
		{"\u00e4", "c3a4"},
	}
	for _, c := range cases {
		if got := impl.EncodeHex(c.s); got != c.want {
			t.Errorf("EncodeHex(%q) = %q, want %q", c.s, got, c.want)
		}
	}
}

func TestDecodeHex(t *testing.T) {
	cases := []struct {
		s, want string
		ok      bool
	}{
		{"", "", true},
		{"61ff", "a\xff", true},
		{"00", "\x00", true},
		{"0123456789abcdef", "\x01\x23\x45\x67\x89\xab\xcd\xef", true},
		{"6", "", false},
		{"61f", "", false},
		{"6F", "", false},
		{"F6", "", false},
		{"61ffgg", "", false},
		{"61 ff", "", false},
		{" 61", "", false},
		{"0x61", "", false},
		{"61\n", "", false},
		{"\u00e4", "", false},
	}
	for _, c := range cases {
		if got, ok := impl.DecodeHex(c.s); got != c.want || ok != c.ok {
			t.Errorf("DecodeHex(%q) = %q, %v, want %q, %v", c.s, got, ok, c.want, c.ok)
		}
	}
}

// TestHexNothingElse compares the decoder with the list of the encodings of all bytes.
func TestHexNothingElse(t *testing.T) {
	bytes := allBytes()
	known := map[string]string{"": ""}
	for i := range len(bytes) {
		known[impl.EncodeHex(bytes[i:i+1])] = bytes[i : i+1]
	}
	if len(known) != 257 {
		t.Fatal("two bytes have the same digits")
	}
	for _, s := range stringsOver(bytes, 2) {
		want, wantOK := known[s]
		if got, ok := impl.DecodeHex(s); got != want || ok != wantOK {
			t.Fatalf("DecodeHex(%q) = %q, %v, want %q, %v", s, got, ok, want, wantOK)
		}
	}
	if got, ok := impl.DecodeHex(impl.EncodeHex(bytes)); got != bytes || !ok {
		t.Errorf("all bytes come back as %q, %v", got, ok)
	}
}

func TestFormatInt(t *testing.T) {
	cases := []struct {
		n    int
		want string
	}{
		{0, "0"},
		{7, "7"},
		{10, "10"},
		{-7, "-7"},
		{-120, "-120"},
		{999999999, "999999999"},
		{1000000000, "1000000000"},
		{math.MaxInt, "9223372036854775807"},
		{math.MinInt, "-9223372036854775808"},
	}
	for _, c := range cases {
		if got := impl.FormatInt(c.n); got != c.want {
			t.Errorf("FormatInt(%d) = %q, want %q", c.n, got, c.want)
		}
	}
}

func TestParseInt(t *testing.T) {
	cases := []struct {
		s  string
		n  int
		ok bool
	}{
		{"0", 0, true},
		{"7", 7, true},
		{"-7", -7, true},
		{"100", 100, true},
		{"-120", -120, true},
		{"999999999", 999999999, true},
		{"-999999999", -999999999, true},
	}
	for _, s := range []string{
		"1000000000", "-1000000000", "9999999999", "9223372036854775807", "9223372036854775808", "-9223372036854775808",
		"18446744073709551617", strings.Repeat("9", 200), "", "-", "--1", "-0", "00", "07", "01", "-01", "0000000001", "+0", "+1",
		" 1", "1 ", "1\n", "1-", "1_0", "0x1", "1e3", "1.0", "a", "1a", "\x00", "1\x00", "\u0661", "\xff",
	} {
		cases = append(cases, struct {
			s  string
			n  int
			ok bool
		}{s, 0, false})
	}
	for _, c := range cases {
		if n, ok := impl.ParseInt(c.s); n != c.n || ok != c.ok {
			t.Errorf("ParseInt(%q) = %d, %v, want %d, %v", c.s, n, ok, c.n, c.ok)
		}
	}
}

func TestIntInverse(t *testing.T) {
	numbers := []int{}
	for n := range 20000 {
		numbers = append(numbers, n)
	}
	for power := 10; power <= 1000000000; power *= 10 {
		numbers = append(numbers, power-1, power/10, power/10+1)
	}
	for _, n := range numbers {
		for _, m := range []int{n, -n} {
			s := impl.FormatInt(m)
			if got, ok := impl.ParseInt(s); got != m || !ok {
				t.Errorf("%d as %q comes back as %d, %v", m, s, got, ok)
			}
		}
	}
}

// TestIntNothingElse compares the parser with the list of all numbers of at most four bytes.
func TestIntNothingElse(t *testing.T) {
	known := map[string]int{}
	for n := -999; n <= 9999; n++ {
		known[impl.FormatInt(n)] = n
	}
	for _, s := range stringsOver("+-0129_ a.", 4) {
		want, wantOK := known[s]
		if n, ok := impl.ParseInt(s); n != want || ok != wantOK {
			t.Fatalf("ParseInt(%q) = %d, %v, want %d, %v", s, n, ok, want, wantOK)
		}
	}
}

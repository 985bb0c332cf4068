package tests

import (
	"math"
	"strconv"
	"strings"
	"testing"

	"loop.example/g01985/impl"
)

func TestEncodeFixed(t *testing.T) {
	cases := []struct {
		n, width int
		want     string
	}{
		{258, 2, "\x01\x02"},
		{0, 1, "\x00"},
		{0, 7, "\x00\x00\x00\x00\x00\x00\x00"},
		{7, 3, "\x00\x00\x07"},
		{0x01020304050607, 7, "\x01\x02\x03\x04\x05\x06\x07"},
		{-1, 1, ""},
		{-1, 7, ""},
		{math.MinInt, 7, ""},
		{math.MaxInt, 7, ""},
		{0, 0, ""},
		{0, -1, ""},
		{0, 8, ""},
		{1, 9, ""},
		{1, math.MaxInt, ""},
		{1, math.MinInt, ""},
	}
	for _, c := range cases {
		if got := impl.EncodeFixed(c.n, c.width); got != c.want {
			t.Errorf("EncodeFixed(%d, %d) = %q, want %q", c.n, c.width, got, c.want)
		}
	}
}

func TestEncodeFixedLargestNumberOfEachWidth(t *testing.T) {
	for width := 1; width <= 7; width++ {
		limit := 1 << (8 * width)
		if got, want := impl.EncodeFixed(limit-1, width), strings.Repeat("\xff", width); got != want {
			t.Errorf("EncodeFixed(%d, %d) = %q, want %q", limit-1, width, got, want)
		}
		if got := impl.EncodeFixed(limit, width); got != "" {
			t.Errorf("EncodeFixed(%d, %d) = %q, want nothing", limit, width, got)
		}
	}
}

func TestDecodeFixed(t *testing.T) {
	cases := []struct {
		s     string
		width int
		want  int
		ok    bool
	}{
		{"\x01\x02", 2, 258, true},
		{"\x01\x02\x03", 2, 258, true},
		{"\x00", 1, 0, true},
		{"\xff", 1, 255, true},
		{"\x00\x00\x07", 3, 7, true},
		{"\xff\xff\xff\xff\xff\xff\xff", 7, 1<<56 - 1, true},
		{"\xff\xff\xff\xff\xff\xff\xff\xff", 7, 1<<56 - 1, true},
		{"\x01\x01\x01\x01\x01\x01\x01\x01", 8, 0, false},
		{"\x01\x01\x01\x01\x01\x01", 7, 0, false},
		{"a", 2, 0, false},
		{"", 1, 0, false},
		{"", 0, 0, false},
		{"abc", 0, 0, false},
		{"abc", -1, 0, false},
		{"abc", math.MaxInt, 0, false},
		{"abc", math.MinInt, 0, false},
	}
	for _, c := range cases {
		if got, ok := impl.DecodeFixed(c.s, c.width); got != c.want || ok != c.ok {
			t.Errorf("DecodeFixed(%q, %d) = %d, %v, want %d, %v", c.s, c.width, got, ok, c.want, c.ok)
		}
	}
}

// Promise 1 for the fixed encoding: all numbers of two bytes, and every string
// of two bytes back.
func TestFixedInverse(t *testing.T) {
	seen := map[string]bool{}
	for n := range 1 << 16 {
		s := impl.EncodeFixed(n, 2)
		seen[s] = true
		if got, ok := impl.DecodeFixed(s+"rest", 2); got != n || !ok {
			t.Fatalf("DecodeFixed of EncodeFixed(%d, 2) = %d, %v", n, got, ok)
		}
	}
	if len(seen) != 1<<16 {
		t.Errorf("EncodeFixed has %d results for %d numbers", len(seen), 1<<16)
	}
	for width := 1; width <= 7; width++ {
		for shift := range 8 * width {
			n := 1<<shift | 1
			if got, ok := impl.DecodeFixed(impl.EncodeFixed(n, width), width); got != n || !ok {
				t.Errorf("DecodeFixed of EncodeFixed(%d, %d) = %d, %v", n, width, got, ok)
			}
		}
	}
}

func TestEncodeVarint(t *testing.T) {
	cases := []struct {
		n    int
		want string
	}{
		{0, "\x00"},
		{1, "\x01"},
		{127, "\x7f"},
		{128, "\x80\x01"},
		{300, "\xac\x02"},
		{16383, "\xff\x7f"},
		{16384, "\x80\x80\x01"},
		{1<<42 - 1, "\xff\xff\xff\xff\xff\x7f"},
		{1 << 42, "\x80\x80\x80\x80\x80\x80\x01"},
		{impl.MaxVarint, "\xff\xff\xff\xff\xff\xff\x7f"},
		{impl.MaxVarint + 1, ""},
		{math.MaxInt, ""},
		{-1, ""},
		{math.MinInt, ""},
	}
	for _, c := range cases {
		if got := impl.EncodeVarint(c.n); got != c.want {
			t.Errorf("EncodeVarint(%d) = %q, want %q", c.n, got, c.want)
		}
	}
	if impl.MaxVarint != 562949953421311 {
		t.Errorf("MaxVarint = %d", impl.MaxVarint)
	}
}

func TestDecodeVarint(t *testing.T) {
	cases := []struct {
		s            string
		want, length int
	}{
		{"\x00", 0, 1},
		{"\x01", 1, 1},
		{"\x7f", 127, 1},
		{"\x80\x01", 128, 2},
		{"\xac\x02", 300, 2},
		{"\xac\x02z", 300, 2},
		{"\x00\x00", 0, 1},
		{"\x05\x80", 5, 1},
		{"\x80\x80\x01", 16384, 3},
		{"\xff\xff\xff\xff\xff\xff\x7f", impl.MaxVarint, 7},
		{"\xff\xff\xff\xff\xff\xff\x7f\xff", impl.MaxVarint, 7},
		{"\x80\x80\x80\x80\x80\x80\x01", 1 << 42, 7},
		{"", 0, 0},
		{"\x80", 0, 0},
		{"\xff\xff\xff\xff\xff\xff", 0, 0},
		{"\xff\xff\xff\xff\xff\xff\xff", 0, 0},
		// MaxVarint+1 and other numbers of eight bytes and more.
		{"\x80\x80\x80\x80\x80\x80\x80\x01", 0, 0},
		{"\xff\xff\xff\xff\xff\xff\xff\x7f", 0, 0},
		{"\x80\x80\x80\x80\x80\x80\x80\x80\x80\x01", 0, 0},
		{strings.Repeat("\x80", 100) + "\x01", 0, 0},
	}
	for _, c := range cases {
		if got, length := impl.DecodeVarint(c.s); got != c.want || length != c.length {
			t.Errorf("DecodeVarint(%q) = %d, %d, want %d, %d", c.s, got, length, c.want, c.length)
		}
	}
}

func TestDecodeVarintUnnecessaryBytes(t *testing.T) {
	for _, s := range []string{
		"\x80\x00",
		"\x80\x00\x01",
		"\xff\x00",
		"\x81\x80\x00",
		"\xac\x82\x00",
		"\x80\x80\x80\x00",
		"\xff\xff\xff\xff\xff\xff\x00",
		"\xff\xff\xff\xff\xff\xff\xff\x00",
		"\x80\x80\x80\x80\x80\x80\x80\x00",
	} {
		if got, length := impl.DecodeVarint(s); got != 0 || length != 0 {
			t.Errorf("DecodeVarint(%q) = %d, %d, want 0, 0", s, got, length)
		}
	}
}

// Promise 1 for varints: what EncodeVarint returns is read back, and what is
// read is what EncodeVarint returns.
func TestVarintInverse(t *testing.T) {
	check := func(n int) {
		s := impl.EncodeVarint(n)
		for _, rest := range []string{"", "\x00", "\x80", "z"} {
			if got, length := impl.DecodeVarint(s + rest); got != n || length != len(s) || s == "" {
				t.Fatalf("DecodeVarint(%q) = %d, %d, want %d, %d", s+rest, got, length, n, len(s))
			}
		}
	}
	for n := range 70000 {
		check(n)
	}
	for shift := range 49 {
		check(1 << shift)
		check(1<<shift - 1)
		check(impl.MaxVarint - 1<<shift + 1)
	}
	check(impl.MaxVarint)
	for i := range 1 << 16 {
		s := string([]byte{byte(i >> 8), byte(i)})
		n, length := impl.DecodeVarint(s)
		if length > 0 && impl.EncodeVarint(n) != s[:length] {
			t.Fatalf("DecodeVarint(%q) = %d, %d, but it is encoded as %q", s, n, length, impl.EncodeVarint(n))
		}
		if want := s[0] < 128 || s[1] > 0 && s[1] < 128; (length > 0) != want || length == 0 && n != 0 {
			t.Fatalf("DecodeVarint(%q) = %d, %d", s, n, length)
		}
	}
}

func TestEncodeHex(t *testing.T) {
	cases := []struct{ s, want string }{
		{"", ""},
		{"a\xff", "61ff"},
		{"\x00", "00"},
		{"\x09\x0a\x90\xa0", "090a90a0"},
		{"\x01\x23\x45\x67\x89\xab\xcd\xef", "0123456789abcdef"},
		{"\u00e9", "c3a9"},
	}
	for _, c := range cases {
		if got := impl.EncodeHex(c.s); got != c.want {
			t.Errorf("EncodeHex(%q) = %q, want %q", c.s, got, c.want)
		}
	}
}

func TestDecodeHex(t *testing.T) {
	for _, c := range []struct{ s, want string }{
		{"", ""},
		{"61ff", "a\xff"},
		{"00", "\x00"},
		{"0123456789abcdef", "\x01\x23\x45\x67\x89\xab\xcd\xef"},
	} {
		if got, ok := impl.DecodeHex(c.s); got != c.want || !ok {
			t.Errorf("DecodeHex(%q) = %q, %v, want %q, true", c.s, got, ok, c.want)
		}
	}
	for _, s := range []string{
		"6", "616", "6F", "F6", "FF", "g0", "0g", "`0", "/0", ":0", " 6", "61 ", "0x61",
		"61\n6", "\xff\xff", "\u00e9", "61\u00e9", "\uff11", "61\xff0", "-1", "616G",
	} {
		if got, ok := impl.DecodeHex(s); got != "" || ok {
			t.Errorf("DecodeHex(%q) = %q, %v, want nothing", s, got, ok)
		}
	}
}

// Promise 1 for the hexadecimal encoding: every string of two bytes is read
// only if it is the encoding of what is read.
func TestHexInverse(t *testing.T) {
	accepted := 0
	for i := range 1 << 16 {
		s := string([]byte{byte(i >> 8), byte(i)})
		if got, ok := impl.DecodeHex(impl.EncodeHex(s)); got != s || !ok {
			t.Fatalf("DecodeHex of EncodeHex(%q) = %q, %v", s, got, ok)
		}
		got, ok := impl.DecodeHex(s)
		if ok {
			accepted++
		}
		if ok && impl.EncodeHex(got) != s || !ok && got != "" {
			t.Fatalf("DecodeHex(%q) = %q, %v", s, got, ok)
		}
	}
	if accepted != 256 {
		t.Errorf("DecodeHex accepts %d strings of two bytes, want 256", accepted)
	}
}

func TestFormatInt(t *testing.T) {
	cases := []struct {
		n    int
		want string
	}{
		{0, "0"},
		{7, "7"},
		{-7, "-7"},
		{10, "10"},
		{-120, "-120"},
		{999999999, "999999999"},
		{1000000000, "1000000000"},
		{math.MaxInt, "9223372036854775807"},
		{math.MinInt, "-9223372036854775808"},
	}
	for _, c := range cases {
		if got := impl.FormatInt(c.n); got != c.want {
			t.Errorf("FormatInt(%d) = %q, want %q", c.n, got, c.want)
		}
	}
}

func TestParseInt(t *testing.T) {
	for s, want := range map[string]int{
		"0": 0, "7": 7, "-7": -7, "10": 10, "-1": -1,
		"999999999": 999999999, "-999999999": -999999999, "100000000": 100000000,
	} {
		if got, ok := impl.ParseInt(s); got != want || !ok {
			t.Errorf("ParseInt(%q) = %d, %v, want %d, true", s, got, ok, want)
		}
	}
	for _, s := range []string{
		"", "-", "--1", "-0", "00", "01", "07", "-07", "+1", "+0", " 1", "1 ", "1\n", "1-", "1.0", "1e3", "0x1", "1_0",
		"a", "/", ":", "12a", "1\x00", "1\xff", "\u0661", "1\uff11", "\u22121",
		"1000000000", "-1000000000", "0000000001", "9223372036854775807", "-9223372036854775808",
		"18446744073709551617", strings.Repeat("9", 100),
	} {
		if got, ok := impl.ParseInt(s); got != 0 || ok {
			t.Errorf("ParseInt(%q) = %d, %v, want 0, false", s, got, ok)
		}
	}
}

// Promise 1 for decimal numbers: every string of up to three of these bytes is
// read only if it is the format of what is read.
func TestIntInverse(t *testing.T) {
	for n := -70000; n <= 70000; n++ {
		if got, ok := impl.ParseInt(impl.FormatInt(n)); got != n || !ok {
			t.Fatalf("ParseInt of FormatInt(%d) = %d, %v", n, got, ok)
		}
	}
	for _, s := range wordsOf("0123456789-+ x\xff", 3) {
		want, err := strconv.Atoi(s)
		valid := err == nil && strconv.Itoa(want) == s
		if !valid {
			want = 0
		}
		if got, ok := impl.ParseInt(s); got != want || ok != valid {
			t.Fatalf("ParseInt(%q) = %d, %v, want %d, %v", s, got, ok, want, valid)
		}
	}
}

package tests

import (
	"math"
	"strconv"
	"strings"
	"testing"

	"loop.example/g01985/impl"
)

// noTerms are numbers beyond the limits of variables and constants.
func noTerms() []int {
	return []int{20, 21, 79, 80, 1000, math.MaxInt, -81, -82, -1000, math.MinInt, math.MinInt + 1}
}

func TestTermLimits(t *testing.T) {
	if impl.MaxVars != 20 || impl.MaxConst != 79 {
		t.Errorf("MaxVars = %d, MaxConst = %d", impl.MaxVars, impl.MaxConst)
	}
}

func TestIsTermAndIsVar(t *testing.T) {
	for v := 0; v <= 19; v++ {
		if !impl.IsTerm(v) || !impl.IsVar(v) {
			t.Errorf("%d: IsTerm = %v, IsVar = %v, want true, true", v, impl.IsTerm(v), impl.IsVar(v))
		}
	}
	for c := -80; c <= -1; c++ {
		if !impl.IsTerm(c) || impl.IsVar(c) {
			t.Errorf("%d: IsTerm = %v, IsVar = %v, want true, false", c, impl.IsTerm(c), impl.IsVar(c))
		}
	}
	for _, n := range noTerms() {
		if impl.IsTerm(n) || impl.IsVar(n) {
			t.Errorf("%d: IsTerm = %v, IsVar = %v, want false, false", n, impl.IsTerm(n), impl.IsVar(n))
		}
	}
}

func TestMakeConst(t *testing.T) {
	for n, want := range map[int]int{
		0: -1, 1: -2, 5: -6, 78: -79, 79: -80,
		80: 0, 81: 0, -1: 0, -80: 0, math.MaxInt: 0, math.MinInt: 0,
	} {
		if got := impl.MakeConst(n); got != want {
			t.Errorf("MakeConst(%d) = %d, want %d", n, got, want)
		}
	}
}

func TestConstOf(t *testing.T) {
	for n := 0; n <= 79; n++ {
		if got := impl.ConstOf(impl.MakeConst(n)); got != n {
			t.Errorf("ConstOf of MakeConst(%d) = %d", n, got)
		}
	}
	for _, v := range append(noTerms(), 0, 1, 19) {
		if got := impl.ConstOf(v); got != -1 {
			t.Errorf("ConstOf(%d) = %d, want -1", v, got)
		}
	}
}

func TestFormatTerm(t *testing.T) {
	for n, want := range map[int]string{
		0: "X0", 1: "X1", 9: "X9", 10: "X10", 19: "X19",
		-1: "0", -2: "1", -10: "9", -11: "10", -80: "79",
	} {
		if got := impl.FormatTerm(n); got != want {
			t.Errorf("FormatTerm(%d) = %q, want %q", n, got, want)
		}
	}
	for _, n := range noTerms() {
		if got := impl.FormatTerm(n); got != "" {
			t.Errorf("FormatTerm(%d) = %q, want nothing", n, got)
		}
	}
}

func TestParseTermInvalid(t *testing.T) {
	for _, s := range []string{
		"", "X", "x", "x0", "Y1", "X20", "X21", "X79", "X00", "X01", "X-0", "X-1", "X+1", "XX0", "X 0", "X0 ", " X0", "X0\n",
		"0X", "0X0", "X0X", "X1_0", "X999999999", "X1000000000", "X18446744073709551616", "X0\x00", "X\xff",
		"80", "81", "-0", "-1", "-80", "+0", "00", "01", "079", " 0", "0 ", "0\n", "1.0", "0x1", "999999999", "1000000000",
		"18446744073709551616", "\u0661", "\uff38" + "0", "X\uff11", "\x00", "\xff", strings.Repeat("0", 50),
	} {
		if got, ok := impl.ParseTerm(s); got != 0 || ok {
			t.Errorf("ParseTerm(%q) = %d, %v, want 0, false", s, got, ok)
		}
	}
}

// Promise 2 for terms: every term is read from its format, and of all strings
// of up to three of these bytes only the 100 formats are read.
func TestTermInverse(t *testing.T) {
	formats := map[string]int{}
	for v := range 20 {
		formats["X"+strconv.Itoa(v)] = v
	}
	for c := range 80 {
		formats[strconv.Itoa(c)] = -1 - c
	}
	for s, n := range formats {
		if got := impl.FormatTerm(n); got != s {
			t.Errorf("FormatTerm(%d) = %q, want %q", n, got, s)
		}
		if got, ok := impl.ParseTerm(s); got != n || !ok {
			t.Errorf("ParseTerm(%q) = %d, %v, want %d, true", s, got, ok, n)
		}
	}
	for _, s := range wordsOf("0123456789Xx-+ ,\x00\xff", 3) {
		want, valid := formats[s]
		if got, ok := impl.ParseTerm(s); got != want || ok != valid {
			t.Fatalf("ParseTerm(%q) = %d, %v, want %d, %v", s, got, ok, want, valid)
		}
	}
}

// The constant 0 is the term -1; the term 0 is a variable, and MakeConst
// returns it for what is no constant.
func TestConstantZero(t *testing.T) {
	if got := impl.MakeConst(0); got != -1 {
		t.Errorf("MakeConst(0) = %d, want -1", got)
	}
	if got := impl.ConstOf(-1); got != 0 {
		t.Errorf("ConstOf(-1) = %d, want 0", got)
	}
	if got := impl.ConstOf(0); got != -1 {
		t.Errorf("ConstOf(0) = %d, want -1", got)
	}
	if !impl.IsTerm(-1) || impl.IsVar(-1) {
		t.Errorf("-1: IsTerm = %v, IsVar = %v, want true, false", impl.IsTerm(-1), impl.IsVar(-1))
	}
	if got := impl.FormatTerm(-1); got != "0" {
		t.Errorf("FormatTerm(-1) = %q, want 0", got)
	}
	if got, ok := impl.ParseTerm("0"); got != -1 || !ok {
		t.Errorf("ParseTerm(0) = %d, %v, want -1, true", got, ok)
	}
	if got, ok := impl.ParseTerm("X0"); got != 0 || !ok {
		t.Errorf("ParseTerm(X0) = %d, %v, want 0, true", got, ok)
	}
}

package tests

import (
	"math"
	"slices"
	"strconv"
	"strings"
	"testing"

	"loop.example/g01985/impl"
)

// shortLists returns all lists of 0 to length of the given numbers.
func shortLists(numbers []int, length int) [][]int {
	all := [][]int{nil}
	lists := all
	for range length {
		var longer [][]int
		for _, l := range lists {
			for _, n := range numbers {
				longer = append(longer, append(slices.Clone(l), n))
			}
		}
		all = append(all, longer...)
		lists = longer
	}
	return all
}

// allTerms returns the 100 terms.
func allTerms() []int {
	var terms []int
	for t := -80; t < 20; t++ {
		terms = append(terms, t)
	}
	return terms
}

// atomText builds the format of an atom from the words of the specification.
func atomText(rel int, args []int) string {
	var terms []string
	for _, t := range args {
		if t < 0 {
			terms = append(terms, strconv.Itoa(-1-t))
		} else {
			terms = append(terms, "X"+strconv.Itoa(t))
		}
	}
	return "r" + strconv.Itoa(rel) + "(" + strings.Join(terms, ",") + ")"
}

func sameAtom(a impl.Atom, b impl.Atom) bool {
	return a.Rel == b.Rel && slices.Equal(a.Args, b.Args)
}

func TestAtomLimits(t *testing.T) {
	if impl.MaxArity != 3 || impl.MaxRelations != 4 {
		t.Errorf("MaxArity = %d, MaxRelations = %d", impl.MaxArity, impl.MaxRelations)
	}
}

func TestIsSchema(t *testing.T) {
	for _, l := range shortLists([]int{math.MinInt, -1, 0, 1, 2, 3, 4, math.MaxInt}, 5) {
		want := len(l) >= 1 && len(l) <= 4
		for _, n := range l {
			want = want && n >= 1 && n <= 3
		}
		if got := impl.IsSchema(impl.Schema{Arity: l}); got != want {
			t.Fatalf("IsSchema(%v) = %v, want %v", l, got, want)
		}
	}
	if impl.IsSchema(impl.Schema{Arity: []int{}}) {
		t.Error("IsSchema of no relations = true")
	}
	if impl.IsSchema(impl.Schema{Arity: slices.Repeat([]int{1}, 1000)}) {
		t.Error("IsSchema of 1000 relations = true")
	}
}

func TestIsAtom(t *testing.T) {
	s := impl.Schema{Arity: []int{2, 1, 3, 3}}
	for rel := -2; rel <= 6; rel++ {
		for _, args := range shortLists([]int{0, 19, 20, -1, -80, -81, math.MaxInt, math.MinInt}, 4) {
			want := rel >= 0 && rel < 4 && len(args) == s.Arity[rel]
			for _, n := range args {
				want = want && n >= -80 && n < 20
			}
			if got := impl.IsAtom(s, impl.Atom{Rel: rel, Args: args}); got != want {
				t.Fatalf("IsAtom(%v, r%d %v) = %v, want %v", s, rel, args, got, want)
			}
		}
	}
}

// A relation that does not exist: one that the schema lacks makes an atom
// invalid, but has a format; one beyond the limit has none.
func TestAtomOfNoRelation(t *testing.T) {
	two := impl.Schema{Arity: []int{1, 1}}
	four := impl.Schema{Arity: []int{1, 1, 1, 1}}
	for _, rel := range []int{2, 3} {
		a := impl.Atom{Rel: rel, Args: []int{0}}
		if impl.IsAtom(two, a) || !impl.IsAtom(four, a) {
			t.Errorf("IsAtom(r%d) = %v, %v for two and four relations, want false, true", rel, impl.IsAtom(two, a), impl.IsAtom(four, a))
		}
		if got, want := impl.FormatAtom(a), atomText(rel, a.Args); got != want {
			t.Errorf("FormatAtom(r%d) = %q, want %q", rel, got, want)
		}
	}
	for _, rel := range []int{-1, 4, 5, 1000, math.MaxInt, math.MinInt} {
		a := impl.Atom{Rel: rel, Args: []int{0}}
		if impl.IsAtom(two, a) || impl.IsAtom(four, a) {
			t.Errorf("IsAtom(r%d) = true", rel)
		}
		if got := impl.FormatAtom(a); got != "" {
			t.Errorf("FormatAtom(r%d) = %q, want nothing", rel, got)
		}
		text := atomText(rel, a.Args)
		if got, ok := impl.ParseAtom(text); ok || !sameAtom(got, impl.Atom{}) {
			t.Errorf("ParseAtom(%q) = %v, %v, want the zero value, false", text, got, ok)
		}
	}
}

func TestIsAtomInvalidSchema(t *testing.T) {
	for _, l := range [][]int{nil, {}, {0}, {4}, {1, 4}, {1, 0}, {1, -1}, {1, 1, 1, 1, 1}} {
		if impl.IsAtom(impl.Schema{Arity: l}, impl.Atom{Args: []int{0}}) {
			t.Errorf("IsAtom for the schema %v = true", l)
		}
	}
	if impl.IsAtom(impl.Schema{Arity: []int{0}}, impl.Atom{}) {
		t.Error("IsAtom without arguments = true")
	}
	if impl.IsAtom(impl.Schema{Arity: []int{4}}, impl.Atom{Args: []int{0, 0, 0, 0}}) {
		t.Error("IsAtom with four arguments = true")
	}
}

func TestFormatAtom(t *testing.T) {
	for want, a := range map[string]impl.Atom{
		"r0(X0,5)":     {Args: []int{0, -6}},
		"r3(X19,0,79)": {Rel: 3, Args: []int{19, -1, -80}},
		"r1(7)":        {Rel: 1, Args: []int{-8}},
		"r2(X3,X3,X3)": {Rel: 2, Args: []int{3, 3, 3}},
		"r0()":         {},
		"r3()":         {Rel: 3, Args: []int{}},
	} {
		if got := impl.FormatAtom(a); got != want {
			t.Errorf("FormatAtom(%v) = %q, want %q", a, got, want)
		}
	}
	for _, a := range []impl.Atom{
		{Rel: -1}, {Rel: 4}, {Rel: -1, Args: []int{0}}, {Rel: 4, Args: []int{0}},
		{Args: []int{0, 0, 0, 0}}, {Args: make([]int, 1000)},
		{Args: []int{20}}, {Args: []int{-81}}, {Args: []int{0, 20}}, {Args: []int{-81, 0}}, {Args: []int{0, 0, 20}},
		{Args: []int{math.MaxInt}}, {Args: []int{math.MinInt}}, {Args: []int{-1000}},
	} {
		if got := impl.FormatAtom(a); got != "" {
			t.Errorf("FormatAtom(%v) = %q, want nothing", a, got)
		}
	}
}

func TestParseAtomInvalid(t *testing.T) {
	for _, s := range []string{
		"", "r", "r0", "r0(", "r0)", "()", "(X0)", "0(X0)", "r(X0)", "r()", "r4(X0)", "r4()", "r-1(X0)", "r-0(X0)", "r00(X0)", "r01(X0)", "r10(X0)",
		"r+1(X0)", "r 0(X0)", "r0 (X0)", " r0(X0)", "r0(X0) ", "r0(X0)\n", "r0( X0)", "r0(X0 )", "r0(X0, 5)", "r0(X0 ,5)", "R0(X0)", "s0(X0)", "rr0(X0)", "X0(X0)",
		"r0(X0,)", "r0(,X0)", "r0(,)", "r0(X0,,5)", "r0(X0", "r0X0)", "r0(X0))", "r0((X0)", "r0(X0)(X1)", "r0()()", "r0(X0)r1(X0)", "r0[X0]", "r0(X0;5)", "r0(X0.5)",
		"r0(X0,X1,X2,X3)", "r0(1,2,3,4)", "r0(1,2,3,)", "r0(,,)", "r0(,,,)", "r0(0,0,0,0,0)", "r0(1,2,3,4,5,6,7,8,9)",
		"r0(X20)", "r0(80)", "r0(-1)", "r0(X-1)", "r0(01)", "r0(X00)", "r0(x0)", "r0(X)", "r0(a)", "r0(r0(X0))", "r0(1,80)", "r0(1,2,X20)",
		"r999999999(X0)", "r1000000000(X0)", "r18446744073709551616(X0)", "r0(18446744073709551615)",
		"r0(X0\x00)", "r0(X0)\x00", "r\xff(X0)", "r0(\xff)", "r0\uff08X0\uff09", "r\u0661(X0)", "\ufeffr0(X0)",
		"r" + strings.Repeat("0", 50) + "(X0)", "r0(" + strings.Repeat("X0,", 500) + "X0)", "r0(" + strings.Repeat(",", 500) + ")", strings.Repeat("r0(", 500) + strings.Repeat(")", 500),
	} {
		if got, ok := impl.ParseAtom(s); ok || !sameAtom(got, impl.Atom{}) {
			t.Errorf("ParseAtom(%q) = %v, %v, want the zero value, false", s, got, ok)
		}
	}
}

// Promise 2 for atoms: every atom with a format is read from it. All terms are
// tried for up to two arguments, and the limits for three.
func TestAtomInverse(t *testing.T) {
	lists := shortLists(allTerms(), 2)
	lists = append(lists, shortLists([]int{0, 1, 9, 10, 19, -1, -2, -10, -11, -80}, 3)...)
	for rel := range 4 {
		for _, args := range lists {
			a, text := impl.Atom{Rel: rel, Args: args}, atomText(rel, args)
			if got := impl.FormatAtom(a); got != text {
				t.Fatalf("FormatAtom(%v) = %q, want %q", a, got, text)
			}
			if got, ok := impl.ParseAtom(text); !ok || !sameAtom(got, a) {
				t.Fatalf("ParseAtom(%q) = %v, %v, want %v, true", text, got, ok, a)
			}
		}
	}
}

// checkParseAtom compares ParseAtom with the table of all atoms that the text
// can be the format of.
func checkParseAtom(t *testing.T, text string, formats map[string]impl.Atom) {
	t.Helper()
	want, valid := formats[text]
	if got, ok := impl.ParseAtom(text); ok != valid || !sameAtom(got, want) {
		t.Fatalf("ParseAtom(%q) = %v, %v, want %v, %v", text, got, ok, want, valid)
	}
}

// Promise 2 for atoms: of all words of these parts, also where they do not fit
// together, only the formats are read.
func TestParseAtomWords(t *testing.T) {
	formats := map[string]impl.Atom{}
	for rel := range 4 {
		for _, args := range shortLists(allTerms(), 2) {
			formats[atomText(rel, args)] = impl.Atom{Rel: rel, Args: args}
		}
		for _, args := range shortLists([]int{0, 1, -1, -2, -5}, 3) {
			formats[atomText(rel, args)] = impl.Atom{Rel: rel, Args: args}
		}
	}
	for _, w := range wordsOf("r014X(),-", 6) {
		checkParseAtom(t, w, formats)
	}
	for _, w := range append(wordsOf("r014X(),- \x00\xff", 5), "") {
		checkParseAtom(t, "r0("+w+")", formats)
	}
}

// Promise 2 for atoms: a text that differs from a format in one byte is read
// only if it is a format, too.
func TestParseAtomChangedByte(t *testing.T) {
	formats := map[string]impl.Atom{}
	for rel := range 4 {
		for _, args := range shortLists(allTerms(), 2) {
			formats[atomText(rel, args)] = impl.Atom{Rel: rel, Args: args}
		}
		// A comma within 79 makes three arguments of two.
		formats[atomText(rel, []int{-8, -10, 1})] = impl.Atom{Rel: rel, Args: []int{-8, -10, 1}}
	}
	for _, text := range []string{"r0()", "r3(7)", "r1(X19)", "r0(X0,5)", "r2(79,X1)"} {
		for i := range len(text) + 1 {
			for b := range 256 {
				changed := text[:i] + string([]byte{byte(b)})
				checkParseAtom(t, changed+text[i:], formats)
				if i < len(text) {
					checkParseAtom(t, changed+text[i+1:], formats)
				}
			}
			if i < len(text) {
				checkParseAtom(t, text[:i]+text[i+1:], formats)
			}
		}
	}
}

// someAtoms are valid and invalid atoms, in the order of LessAtom.
func someAtoms() []impl.Atom {
	return []impl.Atom{
		{Rel: math.MinInt},
		{Rel: -1, Args: []int{5}},
		{Rel: 0},
		{Rel: 0, Args: []int{math.MinInt}},
		{Rel: 0, Args: []int{-80, 19}},
		{Rel: 0, Args: []int{-1}},
		{Rel: 0, Args: []int{0}},
		{Rel: 0, Args: []int{0, math.MinInt, math.MaxInt}},
		{Rel: 0, Args: []int{0, -6}},
		{Rel: 0, Args: []int{0, -5}},
		{Rel: 0, Args: []int{0, 0}},
		{Rel: 0, Args: []int{0, 0, -1}},
		{Rel: 0, Args: []int{0, 0, 0}},
		{Rel: 0, Args: []int{0, 0, 0, -1}},
		{Rel: 0, Args: []int{0, 0, 0, 0}},
		{Rel: 0, Args: []int{0, 0, 0, 0, 0, -7}},
		{Rel: 0, Args: []int{0, 0, 0, 0, 0, 0}},
		{Rel: 0, Args: []int{0, 0, 0, 0, 0, 0, -7}},
		{Rel: 0, Args: []int{0, 0, 0, 0, 0, 0, 0}},
		{Rel: 0, Args: []int{0, 0, 0, 1}},
		{Rel: 0, Args: []int{0, 0, 1}},
		{Rel: 0, Args: []int{0, 1}},
		{Rel: 0, Args: []int{1}},
		{Rel: 0, Args: []int{1, 0}},
		{Rel: 0, Args: []int{math.MaxInt}},
		{Rel: 1},
		{Rel: 1, Args: []int{-9}},
		{Rel: 3, Args: []int{-9}},
		{Rel: 4},
		{Rel: math.MaxInt, Args: []int{0}},
	}
}

func TestEqualAndLessAtoms(t *testing.T) {
	atoms := someAtoms()
	for i, a := range atoms {
		for j, b := range atoms {
			if got := impl.EqualAtoms(a, b); got != (i == j) {
				t.Errorf("EqualAtoms(%v, %v) = %v", a, b, got)
			}
			if got := impl.LessAtom(a, b); got != (i < j) {
				t.Errorf("LessAtom(%v, %v) = %v", a, b, got)
			}
		}
	}
}

func TestEqualAtomsInOtherMemory(t *testing.T) {
	for _, a := range someAtoms() {
		b := impl.Atom{Rel: a.Rel, Args: slices.Concat(a.Args, []int{9})[:len(a.Args)]}
		if !impl.EqualAtoms(a, b) || impl.LessAtom(a, b) || impl.LessAtom(b, a) {
			t.Errorf("%v differs from its copy", a)
		}
	}
	if !impl.EqualAtoms(impl.Atom{}, impl.Atom{Args: []int{}}) || impl.LessAtom(impl.Atom{}, impl.Atom{Args: []int{}}) {
		t.Error("no arguments differ from an empty list")
	}
}

// Two long lists of arguments are equal only if no argument differs, wherever
// it is.
func TestEqualAtomsEveryPlace(t *testing.T) {
	for n := 1; n <= 10; n++ {
		for i := range n {
			a, b := impl.Atom{Rel: 2, Args: make([]int, n)}, impl.Atom{Rel: 2, Args: make([]int, n)}
			b.Args[i] = 1
			if impl.EqualAtoms(a, b) || impl.EqualAtoms(b, a) {
				t.Errorf("EqualAtoms of %v and %v = true", a, b)
			}
			if !impl.LessAtom(a, b) || impl.LessAtom(b, a) {
				t.Errorf("%v is not before %v", a, b)
			}
		}
	}
}

// The arguments stay as they are, with the memory behind them, and a result
// is new memory.
func TestAtomsLeaveArgumentsAlone(t *testing.T) {
	memory := []int{0, -6, 7, 8}
	a := impl.Atom{Args: memory[:2]}
	s := impl.Schema{Arity: memory[1:3:4]}
	impl.IsSchema(s)
	impl.IsAtom(s, a)
	impl.IsAtom(impl.Schema{Arity: []int{2}}, a)
	impl.FormatAtom(a)
	impl.EqualAtoms(a, a)
	impl.LessAtom(a, a)
	if !slices.Equal(memory, []int{0, -6, 7, 8}) {
		t.Errorf("the arguments are now %v", memory)
	}
	first, _ := impl.ParseAtom("r0(X0,5)")
	first.Args[0] = 9
	if again, ok := impl.ParseAtom("r0(X0,5)"); !ok || !sameAtom(again, impl.Atom{Args: []int{0, -6}}) {
		t.Errorf("ParseAtom = %v, %v after a change of an earlier result", again, ok)
	}
}

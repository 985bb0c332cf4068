package tests

import (
	"math"
	"regexp"
	"slices"
	"strconv"
	"strings"
	"testing"

	"loop.example/g01985/impl"
)

// querySchema has relations of one, two and three arguments.
func querySchema() impl.Schema {
	return impl.Schema{Arity: []int{2, 1, 3}}
}

func invalidSchemas() []impl.Schema {
	var all []impl.Schema
	for _, l := range [][]int{nil, {}, {0}, {4}, {2, 0}, {2, 4}, {2, -1}, {2, 1, 1, 1, 1}, {2, math.MaxInt}} {
		all = append(all, impl.Schema{Arity: l})
	}
	return all
}

// atomsOf returns n atoms r1(X0).
func atomsOf(n int) []impl.Atom {
	var atoms []impl.Atom
	for range n {
		atoms = append(atoms, impl.Atom{Rel: 1, Args: []int{0}})
	}
	return atoms
}

func cloneQuery(q impl.Query) impl.Query {
	c := impl.Query{Head: slices.Clone(q.Head)}
	for _, a := range q.Body {
		c.Body = append(c.Body, impl.Atom{Rel: a.Rel, Args: slices.Clone(a.Args)})
	}
	return c
}

func sameQuery(a impl.Query, b impl.Query) bool {
	return slices.Equal(a.Head, b.Head) && slices.EqualFunc(a.Body, b.Body, sameAtom)
}

// headText builds the format of a head from the words of the specification.
func headText(head []int) string {
	if len(head) == 0 {
		return "yes"
	}
	var terms []string
	for _, t := range head {
		if t < 0 {
			terms = append(terms, strconv.Itoa(-1-t))
		} else {
			terms = append(terms, "X"+strconv.Itoa(t))
		}
	}
	return strings.Join(terms, ",")
}

// queryText builds the format of a query from the words of the specification.
func queryText(q impl.Query) string {
	var atoms []string
	for _, a := range q.Body {
		atoms = append(atoms, atomText(a.Rel, a.Args))
	}
	return headText(q.Head) + " :- " + strings.Join(atoms, "; ")
}

func TestQueryLimits(t *testing.T) {
	if impl.MaxAtoms != 4 {
		t.Errorf("MaxAtoms = %d", impl.MaxAtoms)
	}
}

// validQueries are valid for querySchema.
func validQueries() []impl.Query {
	return []impl.Query{
		{Head: []int{0}, Body: atomsOf(1)},
		{Body: atomsOf(1)},
		{Head: []int{}, Body: []impl.Atom{{Rel: 1, Args: []int{-4}}}},
		{Head: []int{-80}, Body: []impl.Atom{{Rel: 1, Args: []int{19}}}},
		{Head: []int{0, 0, 0}, Body: atomsOf(4)},
		{Head: []int{19, -1, 3}, Body: []impl.Atom{{Rel: 2, Args: []int{-80, 3, 3}}, {Rel: 1, Args: []int{19}}}},
		{Head: []int{0, -4}, Body: []impl.Atom{{Args: []int{0, 1}}, {Rel: 1, Args: []int{1}}}},
		{Head: []int{7}, Body: []impl.Atom{{Args: []int{0, 1}}, {Args: []int{1, 2}}, {Args: []int{2, 3}}, {Args: []int{3, 7}}}},
		{Head: []int{2, 1, 0}, Body: []impl.Atom{{Rel: 2, Args: []int{0, 1, 2}}}},
		{Head: []int{-1, -2, -3}, Body: []impl.Atom{{Args: []int{-5, -6}}}},
	}
}

// invalidQueries are not valid for querySchema.
func invalidQueries() []impl.Query {
	return []impl.Query{
		{},
		{Head: []int{}, Body: []impl.Atom{}},
		{Head: []int{-1}},
		{Head: []int{0, 0, 0, 0}, Body: atomsOf(1)},
		{Head: []int{-1, -1, -1, -1}, Body: atomsOf(1)},
		{Head: make([]int, 1000), Body: atomsOf(1)},
		{Head: []int{0}, Body: atomsOf(5)},
		{Body: atomsOf(5)},
		{Body: atomsOf(8)},
		{Body: atomsOf(1000)},
		{Head: []int{1}, Body: atomsOf(1)},
		{Head: []int{0, 1}, Body: atomsOf(4)},
		{Head: []int{0, 0, 1}, Body: atomsOf(4)},
		{Head: []int{19}, Body: atomsOf(1)},
		{Head: []int{0}, Body: []impl.Atom{{Rel: 1, Args: []int{-1}}}},
		{Head: []int{20}, Body: atomsOf(1)},
		{Head: []int{-81}, Body: atomsOf(1)},
		{Head: []int{0, math.MaxInt}, Body: atomsOf(1)},
		{Head: []int{math.MinInt, 0}, Body: atomsOf(1)},
		{Head: []int{20}, Body: []impl.Atom{{Rel: 1, Args: []int{20}}}},
		{Body: []impl.Atom{{Rel: 1, Args: []int{20}}}},
		{Body: []impl.Atom{{Rel: 1, Args: []int{-81}}}},
		{Body: []impl.Atom{{Rel: 1}}},
		{Body: []impl.Atom{{Rel: 1, Args: []int{0, 0}}}},
		{Body: []impl.Atom{{Args: []int{0}}}},
		{Body: []impl.Atom{{Args: []int{0, 0, 0}}}},
		{Body: []impl.Atom{{Rel: 3, Args: []int{0}}}},
		{Body: []impl.Atom{{Rel: -1, Args: []int{0}}}},
		{Body: []impl.Atom{{Rel: math.MaxInt, Args: []int{0}}}},
		{Head: []int{0}, Body: append(atomsOf(3), impl.Atom{})},
		{Head: []int{0}, Body: append([]impl.Atom{{}}, atomsOf(3)...)},
	}
}

func TestIsQuery(t *testing.T) {
	s := querySchema()
	for _, q := range validQueries() {
		if !impl.IsQuery(s, q) {
			t.Errorf("IsQuery(%v) = false", q)
		}
		for _, bad := range invalidSchemas() {
			if impl.IsQuery(bad, q) {
				t.Errorf("IsQuery(%v) for the schema %v = true", q, bad)
			}
		}
	}
	for _, q := range invalidQueries() {
		if impl.IsQuery(s, q) {
			t.Errorf("IsQuery(%v) = true", q)
		}
	}
}

// Every number of elements of the head and of atoms, at the limits and beyond.
func TestIsQuerySizes(t *testing.T) {
	for head := range 8 {
		for atoms := range 10 {
			q := impl.Query{Head: make([]int, head), Body: atomsOf(atoms)}
			want := head <= 3 && atoms >= 1 && atoms <= 4
			if got := impl.IsQuery(querySchema(), q); got != want {
				t.Errorf("IsQuery with %d elements of the head and %d atoms = %v", head, atoms, got)
			}
		}
	}
}

// A variable of the head may occur at any place of the body, and only there.
func TestIsQueryVariablesOfTheHead(t *testing.T) {
	for v := range 20 {
		for atom := range 4 {
			for place := range 3 {
				q := impl.Query{Head: []int{-1, v}}
				for range 4 {
					q.Body = append(q.Body, impl.Atom{Rel: 2, Args: []int{-1 - v, -2, -3}})
				}
				if impl.IsQuery(querySchema(), q) {
					t.Errorf("IsQuery(%v) = true", q)
				}
				q.Body[atom].Args[place] = v
				if !impl.IsQuery(querySchema(), q) {
					t.Errorf("IsQuery(%v) = false", q)
				}
			}
		}
	}
}

func TestVarsOf(t *testing.T) {
	all := make([]int, 20)
	for v := range all {
		all[v] = v
	}
	backwards := slices.Clone(all)
	slices.Reverse(backwards)
	cases := []struct {
		q    impl.Query
		want []int
	}{
		{impl.Query{}, nil},
		{impl.Query{Head: []int{3}}, []int{3}},
		{impl.Query{Head: []int{19, 0}, Body: []impl.Atom{{Args: []int{7, 0}}}}, []int{0, 7, 19}},
		{impl.Query{Body: []impl.Atom{{Args: []int{5, 1}}, {Rel: 1, Args: []int{3}}, {Rel: 1, Args: []int{1}}}}, []int{1, 3, 5}},
		{impl.Query{Body: []impl.Atom{{Args: []int{-1, -80}}}}, nil},
		{impl.Query{Head: []int{20, -1, -81, math.MaxInt, math.MinInt, 2}, Body: []impl.Atom{{Rel: -7, Args: []int{20, 4, math.MinInt, 100, 4}}}}, []int{2, 4}},
		{impl.Query{Head: backwards}, all},
		{impl.Query{Body: []impl.Atom{{Rel: 99, Args: backwards}, {}, {Rel: 99, Args: all}}}, all},
		{impl.Query{Head: backwards[:10], Body: []impl.Atom{{Args: backwards[10:]}}}, all},
	}
	for _, c := range cases {
		if got := impl.VarsOf(c.q); !slices.Equal(got, c.want) {
			t.Errorf("VarsOf(%v) = %v, want %v", c.q, got, c.want)
		}
	}
	for v := range 20 {
		for _, q := range []impl.Query{{Head: []int{-1, v}}, {Body: []impl.Atom{{}, {Args: []int{-1, v}}}}} {
			if got := impl.VarsOf(q); !slices.Equal(got, []int{v}) {
				t.Errorf("VarsOf(%v) = %v", q, got)
			}
		}
	}
}

func TestRenameQuery(t *testing.T) {
	q := impl.Query{Head: []int{0, -4, 2}, Body: []impl.Atom{{Args: []int{0, 1}}, {Rel: 1, Args: []int{2}}}}
	cases := []struct {
		to   []int
		want impl.Query
	}{
		{nil, q},
		{[]int{}, q},
		{[]int{0, 1, 2}, q},
		{[]int{5, -4}, impl.Query{Head: []int{5, -4, 2}, Body: []impl.Atom{{Args: []int{5, -4}}, {Rel: 1, Args: []int{2}}}}},
		// At the same time: 0 becomes 1, and what was 1 becomes 2.
		{[]int{1, 2, 0}, impl.Query{Head: []int{1, -4, 0}, Body: []impl.Atom{{Args: []int{1, 2}}, {Rel: 1, Args: []int{0}}}}},
		{[]int{1, 0}, impl.Query{Head: []int{1, -4, 2}, Body: []impl.Atom{{Args: []int{1, 0}}, {Rel: 1, Args: []int{2}}}}},
		// The elements need not be terms.
		{[]int{math.MaxInt, math.MinInt, -1000}, impl.Query{Head: []int{math.MaxInt, -4, -1000}, Body: []impl.Atom{{Args: []int{math.MaxInt, math.MinInt}}, {Rel: 1, Args: []int{-1000}}}}},
		{[]int{7, 7, 7, 9, 9}, impl.Query{Head: []int{7, -4, 7}, Body: []impl.Atom{{Args: []int{7, 7}}, {Rel: 1, Args: []int{7}}}}},
	}
	for _, c := range cases {
		if got := impl.RenameQuery(q, c.to); !sameQuery(got, c.want) {
			t.Errorf("RenameQuery(%v, %v) = %v, want %v", q, c.to, got, c.want)
		}
	}
}

// Any query and any list: also arguments that are no terms are replaced, and
// the relations stay.
func TestRenameAnyQuery(t *testing.T) {
	to := make([]int, 30)
	for i := range to {
		to[i] = 100 + i
	}
	q := impl.Query{
		Head: []int{20, 29, 30, 31, -1, -80, -81, math.MaxInt, math.MinInt, 19},
		Body: []impl.Atom{{Rel: 5, Args: []int{29, 20, 30, -30, 0}}, {Rel: -1}, {Rel: 2, Args: []int{-2, 25, 25, 1}}, {}, {}, {}, {Rel: 20}},
	}
	want := impl.Query{
		Head: []int{120, 129, 30, 31, -1, -80, -81, math.MaxInt, math.MinInt, 119},
		Body: []impl.Atom{{Rel: 5, Args: []int{129, 120, 30, -30, 100}}, {Rel: -1}, {Rel: 2, Args: []int{-2, 125, 125, 101}}, {}, {}, {}, {Rel: 20}},
	}
	if got := impl.RenameQuery(q, to); !sameQuery(got, want) {
		t.Errorf("RenameQuery = %v, want %v", got, want)
	}
	if got := impl.RenameQuery(impl.Query{}, to); !sameQuery(got, impl.Query{}) {
		t.Errorf("RenameQuery of the zero value = %v", got)
	}
}

func TestFormatQuery(t *testing.T) {
	for want, q := range map[string]impl.Query{
		"X0,3 :- r0(X0,X1); r1(X1)":    {Head: []int{0, -4}, Body: []impl.Atom{{Args: []int{0, 1}}, {Rel: 1, Args: []int{1}}}},
		"yes :- r1(3)":                 {Body: []impl.Atom{{Rel: 1, Args: []int{-4}}}},
		"X19,79,0 :- r2(X19,X19,0)":    {Head: []int{19, -80, -1}, Body: []impl.Atom{{Rel: 2, Args: []int{19, 19, -1}}}},
		"X0 :- r1(X0); r1(X0); r1(X0)": {Head: []int{0}, Body: atomsOf(3)},
		// These are not valid, but have a format.
		"X2 :- r1(X0)":              {Head: []int{2}, Body: atomsOf(1)},
		"X0 :- r3(X0,X1,X2); r3(5)": {Head: []int{0}, Body: []impl.Atom{{Rel: 3, Args: []int{0, 1, 2}}, {Rel: 3, Args: []int{-6}}}},
		"yes :- r0()":               {Body: []impl.Atom{{}}},
		"yes :- r1(X0); r1(X0); r1(X0); r1(X0); r1(X0)":                      {Body: atomsOf(5)},
		"yes :- " + strings.Join(slices.Repeat([]string{"r1(X0)"}, 8), "; "): {Body: atomsOf(8)},
	} {
		if got := impl.FormatQuery(q); got != want {
			t.Errorf("FormatQuery(%v) = %q, want %q", q, got, want)
		}
	}
}

// Each part without a format leaves the query without one.
func TestFormatQueryInvalid(t *testing.T) {
	for head := range 6 {
		for atoms := range 12 {
			q := impl.Query{Head: make([]int, head), Body: atomsOf(atoms)}
			want := ""
			if head <= 3 && atoms >= 1 && atoms <= 8 {
				want = queryText(q)
			}
			if got := impl.FormatQuery(q); got != want {
				t.Errorf("FormatQuery with %d elements of the head and %d atoms = %q, want %q", head, atoms, got, want)
			}
		}
	}
	for _, n := range noTerms() {
		for place := range 3 {
			q := impl.Query{Head: []int{0, 0, 0}, Body: atomsOf(2)}
			q.Head[place] = n
			if got := impl.FormatQuery(q); got != "" {
				t.Errorf("FormatQuery(%v) = %q", q, got)
			}
		}
	}
	for _, a := range []impl.Atom{{Rel: 4, Args: []int{0}}, {Rel: -1, Args: []int{0}}, {Args: []int{0, 0, 0, 0}}, {Args: []int{20}}, {Args: []int{0, -81}}} {
		for place := range 8 {
			q := impl.Query{Body: atomsOf(8)}
			q.Body[place] = a
			if got := impl.FormatQuery(q); got != "" {
				t.Errorf("FormatQuery(%v) = %q", q, got)
			}
		}
	}
	for _, q := range []impl.Query{{}, {Head: []int{0}}, {Head: make([]int, 1000), Body: atomsOf(1)}, {Body: atomsOf(1000)}} {
		if got := impl.FormatQuery(q); got != "" {
			t.Errorf("FormatQuery of %d elements of the head and %d atoms = %q", len(q.Head), len(q.Body), got)
		}
	}
}

func TestParseQuery(t *testing.T) {
	got, ok := impl.ParseQuery(querySchema(), "X0,3 :- r0(X0,X1); r1(X1)")
	want := impl.Query{Head: []int{0, -4}, Body: []impl.Atom{{Args: []int{0, 1}}, {Rel: 1, Args: []int{1}}}}
	if !ok || !sameQuery(got, want) {
		t.Errorf("ParseQuery = %v, %v, want %v, true", got, ok, want)
	}
	for _, q := range validQueries() {
		text := queryText(q)
		if got := impl.FormatQuery(q); got != text {
			t.Errorf("FormatQuery(%v) = %q, want %q", q, got, text)
		}
		if got, ok := impl.ParseQuery(querySchema(), text); !ok || !sameQuery(got, q) {
			t.Errorf("ParseQuery(%q) = %v, %v, want %v, true", text, got, ok, q)
		}
	}
}

// A head without terms is the word yes, which no other head has.
func TestHeadWithoutTerms(t *testing.T) {
	s := querySchema()
	for _, head := range [][]int{nil, {}} {
		q := impl.Query{Head: head, Body: []impl.Atom{{Rel: 1, Args: []int{-4}}, {Args: []int{0, 1}}}}
		if !impl.IsQuery(s, q) {
			t.Errorf("IsQuery(%v) = false", q)
		}
		if got := impl.FormatQuery(q); got != "yes :- r1(3); r0(X0,X1)" {
			t.Errorf("FormatQuery(%v) = %q", q, got)
		}
		if got := impl.VarsOf(q); !slices.Equal(got, []int{0, 1}) {
			t.Errorf("VarsOf(%v) = %v", q, got)
		}
		if got := impl.RenameQuery(q, []int{-4}); len(got.Head) != 0 || impl.FormatQuery(got) != "yes :- r1(3); r0(3,X1)" {
			t.Errorf("RenameQuery(%v) = %v", q, got)
		}
		if got, ok := impl.ParseQuery(s, "yes :- r1(3); r0(X0,X1)"); !ok || !sameQuery(got, q) {
			t.Errorf("ParseQuery = %v, %v, want %v, true", got, ok, q)
		}
	}
	for _, head := range []string{"", " ", "no", "Yes", "YES", "yes ", " yes", "yes,", ",yes", "yes,X0", "X0,yes", "yesyes", "yes,yes", "ye", "y", "none", "()", "yes()", "true"} {
		text := head + " :- r1(X0)"
		if got, ok := impl.ParseQuery(s, text); ok || !sameQuery(got, impl.Query{}) {
			t.Errorf("ParseQuery(%q) = %v, %v, want the zero value, false", text, got, ok)
		}
	}
}

func TestParseQueryInvalid(t *testing.T) {
	for _, text := range []string{
		"", " ", "yes", "X0", "yes :-", "yes :- ", "X0 :- ", " :- ", ":-", " :- r1(X0)", ":- r1(X0)", "r1(X0)", "yes r1(X0)", "yes  r1(X0)",
		"yes :-r1(X0)", "yes:- r1(X0)", "yes:-r1(X0)", "yes  :- r1(X0)", "yes :-  r1(X0)", "yes : - r1(X0)", "yes :- :- r1(X0)", "yes :- r1(X0) :- r1(X0)", "yes -: r1(X0)", "yes <- r1(X0)",
		" yes :- r1(X0)", "yes :- r1(X0) ", "yes :- r1(X0)\n", "\nyes :- r1(X0)", "yes\t:- r1(X0)", "yes :- r1(X0).", "yes :- r1(X0);", "yes :- r1(X0); ", "yes :- ; r1(X0)", "yes :- r1(X0); ; r1(X0)",
		"yes :- r1(X0);r1(X0)", "yes :- r1(X0) ; r1(X0)", "yes :- r1(X0);  r1(X0)", "yes :- r1(X0), r1(X0)", "yes :- r1(X0)r1(X0)", "yes :- r1(X0) r1(X0)", "yes :- r1(X0)& r1(X0)", "yes; r1(X0)", "yes :- yes",
		"X0, X0 :- r1(X0)", "X0,,X0 :- r1(X0)", ",X0 :- r1(X0)", "X0, :- r1(X0)", "X0;X0 :- r1(X0)", "(X0) :- r1(X0)", "X0 X0 :- r1(X0)", "r1(X0) :- r1(X0)", "X20 :- r1(X0)", "80 :- r1(X0)", "-1 :- r1(X0)", "X00 :- r1(X0)", "x0 :- r1(X0)",
		"X0,X0,X0,X0 :- r1(X0)", "1,2,3,4 :- r1(X0)", "1,2,3, :- r1(X0)", "1,2,3,4,5,6,7,8,9 :- r1(X0)",
		"X1 :- r1(X0)", "X0,X1 :- r1(X0)", "0,0,X1 :- r1(X0); r0(X0,X0)", "X0 :- r1(0)", "X1 :- r1(X10)", "X10 :- r1(X1)",
		"yes :- r0(X0)", "yes :- r0(X0,X1,X2)", "yes :- r1()", "yes :- r1(X0,X1)", "yes :- r2(X0)", "yes :- r3(X0)", "yes :- r4(X0)", "yes :- r-1(X0)", "yes :- r01(X0)", "yes :- r1(X20)", "yes :- r1(80)", "yes :- r0(X0, X1)", "yes :- r1(X0); r3(X0)", "yes :- r1(X0); r1(X0); r1(X0); r1()",
		"yes :- r1(X0); r1(X0); r1(X0); r1(X0); r1(X0)", "yes :- r1(X0); r1(X0); r1(X0); r1(X0); ",
		"yes\x00 :- r1(X0)", "yes :- r1(X0)\x00", "\xffyes :- r1(X0)", "yes\xff :- r1(X0)", "yes \xff:- r1(X0)", "yes :- r1(X0)\xff; r1(X0)", "\ufeffyes :- r1(X0)", "yes\u00a0:- r1(X0)",
		"yes :- " + strings.Join(slices.Repeat([]string{"r1(X0)"}, 8), "; "), "yes :- " + strings.Repeat("r1(X0); ", 500), strings.Repeat("X0,", 500) + "X0 :- r1(X0)", strings.Repeat(" :- ", 500), strings.Repeat("; ", 500),
	} {
		if got, ok := impl.ParseQuery(querySchema(), text); ok || !sameQuery(got, impl.Query{}) {
			t.Errorf("ParseQuery(%q) = %v, %v, want the zero value, false", text, got, ok)
		}
	}
	for _, s := range append(invalidSchemas(), impl.Schema{Arity: []int{1}}, impl.Schema{Arity: []int{2}}, impl.Schema{Arity: []int{2, 2, 3}}) {
		if got, ok := impl.ParseQuery(s, "X0 :- r0(X0,X1); r1(X1)"); ok || !sameQuery(got, impl.Query{}) {
			t.Errorf("ParseQuery for the schema %v = %v, %v, want the zero value, false", s, got, ok)
		}
	}
}

// Promise 2 for queries: all heads and bodies of chosen terms and atoms are
// read from their formats, if they are valid.
func TestQueryInverse(t *testing.T) {
	s := querySchema()
	atoms := []impl.Atom{
		{Rel: 1, Args: []int{0}}, {Rel: 1, Args: []int{-1}}, {Args: []int{0, 1}}, {Args: []int{19, -80}}, {Rel: 2, Args: []int{1, 0, -11}}, {Rel: 1, Args: []int{10}},
	}
	for _, head := range shortLists([]int{0, 1, 10, 19, -1, -2, -80}, 3) {
		for _, list := range shortLists([]int{0, 1, 2, 3, 4, 5}, 2)[1:] {
			checkQueryInverse(t, s, head, atoms, list)
		}
	}
	for _, head := range shortLists([]int{0, -80}, 2) {
		for _, list := range shortLists([]int{0, 1, 2, 3, 4, 5}, 5)[1:] {
			checkQueryInverse(t, s, head, atoms, list)
		}
	}
}

// checkQueryInverse takes the atoms with the numbers in list as the body.
func checkQueryInverse(t *testing.T, s impl.Schema, head []int, atoms []impl.Atom, list []int) {
	t.Helper()
	q := impl.Query{Head: head}
	var terms []int
	for _, i := range list {
		q.Body = append(q.Body, atoms[i])
		terms = append(terms, atoms[i].Args...)
	}
	valid := len(list) <= 4
	for _, n := range head {
		valid = valid && (n < 0 || slices.Contains(terms, n))
	}
	text, want := queryText(q), impl.Query{}
	if valid {
		want = q
	}
	if got := impl.IsQuery(s, q); got != valid {
		t.Fatalf("IsQuery(%v) = %v, want %v", q, got, valid)
	}
	if got := impl.FormatQuery(q); got != text {
		t.Fatalf("FormatQuery(%v) = %q, want %q", q, got, text)
	}
	if got, ok := impl.ParseQuery(s, text); ok != valid || !sameQuery(got, want) {
		t.Fatalf("ParseQuery(%q) = %v, %v, want %v, %v", text, got, ok, want, valid)
	}
}

// A queryReader decides by patterns alone which texts are formats of valid
// queries for querySchema.
type queryReader struct {
	whole    *regexp.Regexp
	variable *regexp.Regexp
}

func newQueryReader() queryReader {
	term := `(?:X1?[0-9]|[1-7]?[0-9])`
	two := term + "," + term
	atom := `(?:r0\(` + two + `\)|r1\(` + term + `\)|r2\(` + two + "," + term + `\))`
	head := "(yes|" + term + "(?:," + term + "){0,2})"
	body := "(" + atom + "(?:; " + atom + "){0,3})"
	return queryReader{
		whole:    regexp.MustCompile(`\A` + head + " :- " + body + `\z`),
		variable: regexp.MustCompile(`X[0-9]+`),
	}
}

func (r queryReader) accepts(text string) bool {
	m := r.whole.FindStringSubmatch(text)
	if m == nil {
		return false
	}
	inBody := r.variable.FindAllString(m[2], -1)
	for _, v := range r.variable.FindAllString(m[1], -1) {
		if !slices.Contains(inBody, v) {
			return false
		}
	}
	return true
}

// check compares ParseQuery with the patterns. Different valid queries have
// different texts, so the text of the result shows whether it is the right one.
func (r queryReader) check(t *testing.T, text string) {
	t.Helper()
	got, ok := impl.ParseQuery(querySchema(), text)
	if ok != r.accepts(text) {
		t.Fatalf("ParseQuery(%q) = %v, %v, want %v", text, got, ok, !ok)
	}
	if ok && queryText(got) != text || !ok && !sameQuery(got, impl.Query{}) {
		t.Fatalf("ParseQuery(%q) = %v, %v", text, got, ok)
	}
}

// The patterns themselves accept what they should.
func TestQueryReader(t *testing.T) {
	r := newQueryReader()
	for _, q := range validQueries() {
		if !r.accepts(queryText(q)) {
			t.Errorf("the patterns refuse %q", queryText(q))
		}
	}
	for _, text := range []string{"", "yes", "yes :- ", "yes :- A", "T :- r1(X0)", "X1 :- r1(X0)", "yes :- r1(X0)\n", "\nyes :- r1(X0)", "yes :- r1(X20)", "yes :- r1(80)", "yes :- r3(X0)"} {
		if r.accepts(text) {
			t.Errorf("the patterns accept %q", text)
		}
	}
}

// Promise 2 for queries: of all sequences of these parts, also where they do
// not fit together, only the formats are read.
func TestParseQueryParts(t *testing.T) {
	r := newQueryReader()
	parts := []string{"yes", "X0", "7", ",", " :- ", "; ", " ", ";", "r0(X0,X1)", "r1(7)"}
	texts := []string{""}
	for range 5 {
		var longer []string
		for _, text := range texts {
			for _, part := range parts {
				longer = append(longer, text+part)
				r.check(t, text+part)
			}
		}
		texts = longer
	}
	for _, body := range shortTexts([]string{"r0(X0,X1)", "r1(7)", "; ", ";", " "}, 7) {
		r.check(t, "yes :- "+body)
		r.check(t, "X0 :- "+body)
	}
	for _, head := range shortTexts([]string{"yes", "X0", "X1", "7", ",", " "}, 6) {
		r.check(t, head+" :- r1(X0); r0(7,X0)")
	}
}

// shortTexts returns all sequences of up to length of the given parts.
func shortTexts(parts []string, length int) []string {
	all := []string{""}
	texts := all
	for range length {
		var longer []string
		for _, text := range texts {
			for _, part := range parts {
				longer = append(longer, text+part)
			}
		}
		all = append(all, longer...)
		texts = longer
	}
	return all
}

// Promise 2 for queries: a text that differs from a format in one byte is read
// only if it is a format, too.
func TestParseQueryChangedByte(t *testing.T) {
	r := newQueryReader()
	for _, text := range []string{"yes :- r1(3)", "X0,3 :- r0(X0,X1); r1(X1)", "7 :- r2(X0,X10,79)", "X1,X1,X19 :- r1(X1); r1(X19); r0(X1,0); r1(7)"} {
		for _, changed := range changedTexts(text) {
			r.check(t, changed)
		}
	}
}

// differentQueries are valid and invalid queries of which no two are equal.
func differentQueries() []impl.Query {
	return append(slices.Concat(differentHeads(), differentBodies()), impl.Query{})
}

func differentHeads() []impl.Query {
	var all []impl.Query
	for _, head := range shortLists([]int{0, 1, -1, math.MaxInt, math.MinInt}, 2) {
		all = append(all, impl.Query{Head: head, Body: atomsOf(1)})
	}
	return append(all, impl.Query{Head: []int{0}}, impl.Query{Head: make([]int, 9)})
}

func differentBodies() []impl.Query {
	return []impl.Query{
		{Head: []int{0}, Body: atomsOf(2)},
		{Head: []int{0}, Body: atomsOf(5)},
		{Body: atomsOf(9)},
		{Body: []impl.Atom{{}}},
		{Body: []impl.Atom{{}, {}}},
		{Body: []impl.Atom{{Rel: -1}}},
		{Body: []impl.Atom{{Args: []int{0, 1}}}},
		{Body: []impl.Atom{{Args: []int{1, 0}}}},
		{Body: []impl.Atom{{Rel: 1, Args: []int{1, 0}}}},
		{Body: []impl.Atom{{Args: []int{1, 0}}, {Rel: 1, Args: []int{0}}}},
		{Body: []impl.Atom{{Rel: 1, Args: []int{0}}, {Args: []int{1, 0}}}},
		{Body: []impl.Atom{{Args: []int{0, 0, 0, 0, 0}}}},
		{Body: []impl.Atom{{Args: []int{0, 0, 0, 0, 1}}}},
	}
}

func TestEqualQueries(t *testing.T) {
	all := differentQueries()
	for i, a := range all {
		for j, b := range all {
			if got := impl.EqualQueries(a, cloneQuery(b)); got != (i == j) {
				t.Errorf("EqualQueries(%v, %v) = %v", a, b, got)
			}
		}
	}
	bare := impl.Query{Head: []int{}, Body: []impl.Atom{}}
	if !impl.EqualQueries(bare, impl.Query{}) || !impl.EqualQueries(impl.Query{}, bare) {
		t.Error("nil lists differ from empty ones")
	}
	if !impl.EqualQueries(impl.Query{Body: []impl.Atom{{Args: []int{}}}}, impl.Query{Body: []impl.Atom{{}}}) {
		t.Error("nil arguments differ from an empty list")
	}
}

// The arguments stay as they are, with the memory behind them.
func TestQueriesLeaveArgumentsAlone(t *testing.T) {
	head, args, to := []int{1, 0, 9, 9}, []int{0, 1, 9, 9}, []int{5, 6, 9, 9}
	atoms := []impl.Atom{{Args: args[:2]}, {Rel: 1, Args: args[1:2]}, {Rel: 9}}
	q := impl.Query{Head: head[:2], Body: atoms[:2]}
	s := impl.Schema{Arity: []int{2, 1, 9}[:2]}
	impl.IsQuery(s, q)
	impl.VarsOf(q)
	impl.RenameQuery(q, to[:2])
	impl.FormatQuery(q)
	impl.ParseQuery(s, "X0 :- r0(X0,X1)")
	impl.EqualQueries(q, q)
	if !slices.Equal(head, []int{1, 0, 9, 9}) || !slices.Equal(args, []int{0, 1, 9, 9}) || !slices.Equal(to, []int{5, 6, 9, 9}) || !slices.Equal(s.Arity[:3], []int{2, 1, 9}) {
		t.Errorf("the arguments are now %v, %v, %v, %v", head, args, to, s)
	}
	if !slices.EqualFunc(atoms, []impl.Atom{{Args: []int{0, 1}}, {Rel: 1, Args: []int{1}}, {Rel: 9}}, sameAtom) {
		t.Errorf("the atoms are now %v", atoms)
	}
}

// overwrite changes all numbers that the slices of a query can hold.
func overwrite(l []int) {
	l = l[:cap(l)]
	for i := range l {
		l[i] = 77
	}
}

// A result is new memory, and no two of its slices share any.
func TestQueryResultsShareNoMemory(t *testing.T) {
	s := querySchema()
	text := "X0,X1 :- r0(X0,X1); r0(X1,X0); r1(X1)"
	q, _ := impl.ParseQuery(s, text)
	for _, to := range [][]int{nil, {0, 1}} {
		parsed, _ := impl.ParseQuery(s, text)
		for _, result := range []impl.Query{parsed, impl.RenameQuery(q, to)} {
			want := cloneQuery(result)
			overwrite(result.Head)
			want.Head = []int{77, 77}
			for i := range result.Body {
				if !sameQuery(result, want) {
					t.Fatalf("a change of one slice made the query %v, not %v", result, want)
				}
				overwrite(result.Body[i].Args)
				overwrite(want.Body[i].Args)
			}
			for i := range result.Body {
				result.Body[i].Rel = 7
			}
		}
		if impl.FormatQuery(q) != text {
			t.Fatalf("the argument is now %v", q)
		}
		if to != nil && !slices.Equal(to, []int{0, 1}) {
			t.Fatalf("the list is now %v", to)
		}
	}
	vars := impl.VarsOf(q)
	overwrite(vars)
	if impl.FormatQuery(q) != text || !slices.Equal(impl.VarsOf(q), []int{0, 1}) {
		t.Errorf("a change of VarsOf changed the query to %v", q)
	}
}

package tests

import (
	"math"
	"math/rand"
	"runtime"
	"slices"
	"strings"
	"sync"
	"testing"
	"time"

	"loop.example/g01985/impl"
)

// namedFirst numbers the variables of any query as they occur.
func namedFirst(q impl.Query) impl.Query {
	names := map[int]int{}
	named := cloneQuery(q)
	rename := func(terms []int) {
		for i, t := range terms {
			if t < 0 || t >= 20 {
				continue
			}
			if _, ok := names[t]; !ok {
				names[t] = len(names)
			}
			terms[i] = names[t]
		}
	}
	rename(named.Head)
	for _, a := range named.Body {
		rename(a.Args)
	}
	return named
}

// codeOf builds the code of any query from the words of the specification.
func codeOf(q impl.Query) []int {
	code := []int{len(q.Head)}
	for _, t := range q.Head {
		code = append(code, t)
	}
	for _, a := range q.Body {
		code = append(code, a.Rel)
		for _, t := range a.Args {
			code = append(code, t)
		}
	}
	return code
}

// lessList compares two lists as LessAtom compares arguments.
func lessList(a []int, b []int) bool {
	for i, n := range a {
		if i == len(b) || n > b[i] {
			return false
		}
		if n < b[i] {
			return true
		}
	}
	return len(a) < len(b)
}

// inOrder returns the query with its atoms in this order.
func inOrder(q impl.Query, order []int) impl.Query {
	ordered := impl.Query{Head: slices.Clone(q.Head)}
	for _, i := range order {
		ordered.Body = append(ordered.Body, cloneQuery(q).Body[i])
	}
	return ordered
}

// triedNormal returns the normal form of a valid query.
func triedNormal(q impl.Query) impl.Query {
	least := namedFirst(q)
	for _, order := range orders(len(q.Body)) {
		if named := namedFirst(inOrder(q, order)); lessList(codeOf(named), codeOf(least)) {
			least = named
		}
	}
	return least
}

// matches reports whether one list of terms becomes the other one if its
// variables are replaced by others, no two by the same one: to has these, and
// back the other way round. It adds those that are not there yet.
func matches(to map[int]int, back map[int]int, a []int, b []int) bool {
	if len(a) != len(b) {
		return false
	}
	for i := range a {
		if a[i] < 0 || b[i] < 0 {
			if a[i] != b[i] {
				return false
			}
			continue
		}
		image, ok := to[a[i]]
		original, backOk := back[b[i]]
		if ok != backOk || ok && (image != b[i] || original != a[i]) {
			return false
		}
		to[a[i]], back[b[i]] = b[i], a[i]
	}
	return true
}

// sameUpToNames reports whether two valid queries differ only in names and
// order: no names are given here, the variables are only held against each
// other.
func sameUpToNames(a impl.Query, b impl.Query) bool {
	if len(a.Body) != len(b.Body) {
		return false
	}
nextOrder:
	for _, order := range orders(len(b.Body)) {
		to, back := map[int]int{}, map[int]int{}
		if !matches(to, back, a.Head, b.Head) {
			return false
		}
		for i, j := range order {
			if a.Body[i].Rel != b.Body[j].Rel || !matches(to, back, a.Body[i].Args, b.Body[j].Args) {
				continue nextOrder
			}
		}
		return true
	}
	return false
}

// checkNames checks the names and the code of any query.
func checkNames(t *testing.T, q impl.Query) {
	t.Helper()
	if got, want := impl.FirstNames(q), namedFirst(q); !sameQuery(got, want) {
		t.Fatalf("FirstNames(%v) = %v, want %v", q, got, want)
	}
	if got, want := impl.QueryCode(q), codeOf(q); !slices.Equal(got, want) {
		t.Fatalf("QueryCode(%v) = %v, want %v", q, got, want)
	}
}

// checkNormal checks what the functions return for a valid query, and returns
// its normal form.
func checkNormal(t *testing.T, s impl.Schema, q impl.Query) impl.Query {
	t.Helper()
	checkNames(t, q)
	want := triedNormal(q)
	got, ok := impl.NormalForm(s, q)
	if !ok || !sameQuery(got, want) {
		t.Fatalf("NormalForm(%s) = %s, %v, want %s", queryText(q), queryText(got), ok, queryText(want))
	}
	if !impl.IsQuery(s, got) || !sameUpToNames(q, got) || !impl.IsIsomorphic(s, q, got) || !impl.IsIsomorphic(s, got, q) {
		t.Fatalf("NormalForm(%s) = %s, which is no other form of it", queryText(q), queryText(got))
	}
	if again, ok := impl.NormalForm(s, got); !ok || !sameQuery(again, got) {
		t.Fatalf("NormalForm(%s) = %s, %v", queryText(got), queryText(again), ok)
	}
	return got
}

// checkIsomorphic checks whether two valid queries are isomorphic and whether
// their normal forms are equal, and returns this.
func checkIsomorphic(t *testing.T, s impl.Schema, a impl.Query, b impl.Query) bool {
	t.Helper()
	want := sameUpToNames(a, b)
	x, xOk := impl.NormalForm(s, a)
	y, yOk := impl.NormalForm(s, b)
	if impl.IsIsomorphic(s, a, b) != want || impl.IsIsomorphic(s, b, a) != want || !xOk || !yOk || sameQuery(x, y) != want {
		t.Fatalf("%s and %s: isomorphic %v, the other way round %v, with the normal forms %s and %s", queryText(a), queryText(b), impl.IsIsomorphic(s, a, b), impl.IsIsomorphic(s, b, a), queryText(x), queryText(y))
	}
	return want
}

// checkNotNormal checks what the functions return for a query that is not
// valid, with some that may be.
func checkNotNormal(t *testing.T, s impl.Schema, q impl.Query, others ...impl.Query) {
	t.Helper()
	checkNames(t, q)
	if got, ok := impl.NormalForm(s, q); ok || !sameQuery(got, impl.Query{}) {
		t.Errorf("NormalForm(%v, %v) = %v, %v", s, q, got, ok)
	}
	for _, other := range append(others, q, impl.Query{}) {
		if impl.IsIsomorphic(s, q, other) || impl.IsIsomorphic(s, other, q) {
			t.Errorf("%v, %v and %v are isomorphic", s, q, other)
		}
	}
}

// The wanted names are written out here.
func TestFirstNames(t *testing.T) {
	for _, c := range []struct {
		query string
		want  string
		note  string
	}{
		{"X5 :- r0(X3,X5); r1(X0)", "X0 :- r0(X1,X0); r1(X2)", "the head comes first"},
		{"yes :- r0(X3,X5); r1(X0)", "yes :- r0(X0,X1); r1(X2)", "no head"},
		{"X2,X1,X0 :- r2(X0,X1,X2)", "X0,X1,X2 :- r2(X2,X1,X0)", "all in the head"},
		{"X7,X3,X7 :- r2(X3,X9,X7)", "X0,X1,X0 :- r2(X1,X2,X0)", "one twice in the head"},
		{"X1,X0 :- r0(X0,X1)", "X0,X1 :- r0(X1,X0)", "two change places"},
		{"X1 :- r0(X0,X1); r0(X1,X2); r0(X2,X0)", "X0 :- r0(X1,X0); r0(X0,X2); r0(X2,X1)", "three change places"},
		{"X0 :- r0(X0,X1); r0(X1,X2)", "X0 :- r0(X0,X1); r0(X1,X2)", "nothing changes"},
		{"X0 :- r0(X0,X2); r0(X2,X4)", "X0 :- r0(X0,X1); r0(X1,X2)", "no gaps"},
		{"5,X4,0 :- r0(5,X4); r1(1); r2(X8,2,X4)", "5,X0,0 :- r0(5,X0); r1(1); r2(X1,2,X0)", "constants stay"},
		{"79 :- r1(79)", "79 :- r1(79)", "no variables"},
		{"X19 :- r1(X19)", "X0 :- r1(X0)", "the last variable"},
		{"yes :- r1(X2); r1(X1); r1(X0)", "yes :- r1(X0); r1(X1); r1(X2)", "the order of the atoms stays"},
		{"yes :- r1(X1); r0(X0,X0)", "yes :- r1(X0); r0(X1,X1)", "so does that of the relations"},
		{"X1 :- r1(X0); r1(X1); r1(X1)", "X0 :- r1(X1); r1(X0); r1(X0)", "equal atoms stay"},
	} {
		q := readEvalQuery(t, c.query)
		got := impl.FirstNames(q)
		if queryText(got) != c.want {
			t.Errorf("%s: FirstNames(%s) = %s", c.note, c.query, queryText(got))
		}
		if again := impl.FirstNames(got); !sameQuery(again, got) {
			t.Errorf("%s: FirstNames(%s) = %s", c.note, queryText(got), queryText(again))
		}
		checkNormal(t, querySchema(), q)
	}
}

// Any query: numbers that are no variables stay, whatever the names are, and
// heads, bodies and atoms may have any length.
func TestFirstNamesOfAnyQuery(t *testing.T) {
	q := impl.Query{
		Head: []int{20, 19, math.MaxInt, -1, 3, math.MinInt, -80, -81, 19},
		Body: []impl.Atom{{}, {Rel: -7, Args: []int{21, 3, 0, 3, 0, 20}}, {Rel: 19, Args: []int{-1000, 7, 19, 2}}, {Rel: 3}, {Rel: math.MaxInt, Args: []int{2}}, {Args: []int{1}}},
	}
	want := impl.Query{
		Head: []int{20, 0, math.MaxInt, -1, 1, math.MinInt, -80, -81, 0},
		Body: []impl.Atom{{}, {Rel: -7, Args: []int{21, 1, 2, 1, 2, 20}}, {Rel: 19, Args: []int{-1000, 3, 0, 4}}, {Rel: 3}, {Rel: math.MaxInt, Args: []int{4}}, {Args: []int{5}}},
	}
	if got := impl.FirstNames(q); !sameQuery(got, want) {
		t.Errorf("FirstNames(%v) = %v, want %v", q, got, want)
	}
	checkNames(t, q)
	for _, each := range slices.Concat(differentQueries(), validQueries(), invalidQueries()) {
		checkNames(t, each)
	}
	for _, n := range append(noTerms(), allTerms()...) {
		checkNames(t, impl.Query{Head: []int{n}})
		checkNames(t, impl.Query{Head: []int{n, 7, n, 4, n}, Body: []impl.Atom{{Args: []int{n, 4}}, {Rel: n, Args: []int{9, n}}}})
		checkNames(t, impl.Query{Body: []impl.Atom{{Args: []int{7}}, {Rel: n, Args: []int{4, n, n, 7}}}})
	}
}

// All 20 variables, in the head, in the body or in both, in several orders.
func TestFirstNamesOfAllVariables(t *testing.T) {
	r := rand.New(rand.NewSource(10))
	for range 500 {
		perm := r.Perm(20)
		for _, n := range []int{0, 1, 3, 10, 19, 20} {
			q := impl.Query{Head: slices.Clone(perm[:n]), Body: []impl.Atom{{Rel: 2, Args: slices.Clone(perm[n:])}, {Args: slices.Clone(perm)}}}
			want := impl.Query{Head: indexes(20)[:n], Body: []impl.Atom{{Rel: 2, Args: indexes(20)[n:]}, {Args: indexes(20)}}}
			if got := impl.FirstNames(q); !sameQuery(got, want) {
				t.Fatalf("FirstNames(%v) = %v", q, got)
			}
			for _, a := range q.Body {
				r.Shuffle(len(a.Args), func(i, j int) { a.Args[i], a.Args[j] = a.Args[j], a.Args[i] })
			}
			checkNames(t, q)
		}
	}
}

// Long heads, atoms and bodies.
func TestNamesOfLongQueries(t *testing.T) {
	const many = 100000
	var q impl.Query
	for n := range many {
		q.Head = append(q.Head, n%31-5)
		q.Body = append(q.Body, impl.Atom{Rel: n, Args: []int{n % 23, -n}})
	}
	q.Body[7].Args = slices.Repeat([]int{19, 20, -1, 3}, many)
	checkNames(t, q)
	checkNotNormal(t, querySchema(), q)
	q.Head = nil
	checkNames(t, q)
}

// The wanted codes are written out here.
func TestQueryCode(t *testing.T) {
	for _, c := range []struct {
		query string
		want  []int
	}{
		{"X0 :- r0(X0,3)", []int{1, 0, 0, 0, -4}},
		{"yes :- r1(X5)", []int{0, 1, 5}},
		{"79,X19,0 :- r1(X19); r2(X19,0,79)", []int{3, -80, 19, -1, 1, 19, 2, 19, -1, -80}},
		{"X1,X0 :- r0(X0,X1); r1(X1); r1(X1); r0(X0,X0)", []int{2, 1, 0, 0, 0, 1, 1, 1, 1, 1, 0, 0, 0}},
	} {
		if got := impl.QueryCode(readEvalQuery(t, c.query)); !slices.Equal(got, c.want) {
			t.Errorf("QueryCode(%s) = %v, want %v", c.query, got, c.want)
		}
	}
	for _, c := range []struct {
		q    impl.Query
		want []int
	}{
		{impl.Query{}, []int{0}},
		{impl.Query{Head: []int{}, Body: []impl.Atom{}}, []int{0}},
		{impl.Query{Head: []int{math.MinInt, math.MaxInt, 20, -81, 7}}, []int{5, math.MinInt, math.MaxInt, 20, -81, 7}},
		{impl.Query{Body: []impl.Atom{{}, {Rel: -1}, {Args: []int{}}}}, []int{0, 0, -1, 0}},
		{impl.Query{Body: []impl.Atom{{Rel: math.MaxInt, Args: []int{9, -1000, 9, 9, 9}}, {Rel: math.MinInt, Args: []int{1}}}}, []int{0, math.MaxInt, 9, -1000, 9, 9, 9, math.MinInt, 1}},
	} {
		if got := impl.QueryCode(c.q); !slices.Equal(got, c.want) {
			t.Errorf("QueryCode(%v) = %v, want %v", c.q, got, c.want)
		}
		checkNames(t, c.q)
	}
}

// The wanted normal forms are written out here.
func TestNormalForm(t *testing.T) {
	for _, c := range []struct {
		query string
		want  string
		note  string
	}{
		{"X2 :- r0(X3,X2); r0(X2,X3)", "X0 :- r0(X0,X1); r0(X1,X0)", "a circle"},
		{"yes :- r0(X3,X2); r0(X2,X3)", "yes :- r0(X0,X1); r0(X1,X0)", "a circle without a head"},
		{"yes :- r0(X1,X2); r0(X0,X1)", "yes :- r0(X0,X1); r0(X1,X2)", "a path"},
		{"yes :- r0(X2,X3); r0(X1,X2); r0(X0,X1)", "yes :- r0(X0,X1); r0(X1,X2); r0(X2,X3)", "a longer path"},
		{"X9 :- r0(X1,X9); r0(X0,X1)", "X0 :- r0(X1,X0); r0(X2,X1)", "a path to the head"},
		{"X9 :- r0(X0,X1); r0(X1,X9)", "X0 :- r0(X1,X0); r0(X2,X1)", "the same in the other order"},
		{"yes :- r0(X0,X2); r0(X1,X2)", "yes :- r0(X0,X1); r0(X2,X1)", "two steps to one place"},
		{"yes :- r0(X2,X1); r0(X0,X0)", "yes :- r0(X0,X0); r0(X1,X2)", "a loop comes first"},
		{"yes :- r1(X1); r0(X2,X1)", "yes :- r0(X0,X1); r1(X1)", "relations in ascending order"},
		{"yes :- r2(X0,X1,X2); r1(X0); r0(X1,X2)", "yes :- r0(X0,X1); r1(X2); r2(X2,X0,X1)", "three relations"},
		{"yes :- r1(X0); r1(0)", "yes :- r1(0); r1(X0)", "constants come first"},
		{"yes :- r1(0); r1(1); r1(79)", "yes :- r1(79); r1(1); r1(0)", "greater constants come first, as they are less terms"},
		{"X1 :- r0(X1,X0); r0(X1,3)", "X0 :- r0(X0,3); r0(X0,X1)", "a constant at the second place"},
		{"3,X4 :- r1(X4); r0(3,X4)", "3,X0 :- r0(3,X0); r1(X0)", "a constant in the head"},
		{"X8,X9 :- r1(X9); r1(X8)", "X0,X1 :- r1(X0); r1(X1)", "the head gives the names"},
		{"X9,X8 :- r1(X9); r1(X8)", "X0,X1 :- r1(X0); r1(X1)", "whatever the names were"},
		{"X9,X9 :- r1(X8); r1(X9)", "X0,X0 :- r1(X0); r1(X1)", "a term twice in the head"},
		{"yes :- r0(X2,X3); r1(X1); r0(X0,X1)", "yes :- r0(X0,X1); r0(X2,X3); r1(X1)", "a later atom decides between two that are equal up to names"},
		{"yes :- r0(X0,X1); r0(X2,X3); r1(X2)", "yes :- r0(X0,X1); r0(X2,X3); r1(X0)", "the same for the other place"},
		{"yes :- r0(X0,X1); r0(X2,X1); r0(X2,X3)", "yes :- r0(X0,X1); r0(X0,X2); r0(X3,X1)", "a zigzag"},
		{"yes :- r0(X4,X4); r0(X3,X4)", "yes :- r0(X0,X0); r0(X1,X0)", "a step to a loop"},
		{"yes :- r1(X5); r1(X5); r1(X2)", "yes :- r1(X0); r1(X0); r1(X1)", "equal atoms stay, side by side"},
		{"yes :- r1(X7)", "yes :- r1(X0)", "one atom"},
		{"79 :- r1(79)", "79 :- r1(79)", "no variables"},
	} {
		q := readEvalQuery(t, c.query)
		if got := checkNormal(t, querySchema(), q); queryText(got) != c.want {
			t.Errorf("%s: NormalForm(%s) = %s", c.note, c.query, queryText(got))
		}
	}
}

// Which queries are isomorphic is written out here.
func TestIsIsomorphic(t *testing.T) {
	for _, c := range []struct {
		a    string
		b    string
		want bool
		note string
	}{
		{"X2 :- r0(X3,X2); r0(X2,X3)", "X0 :- r0(X0,X1); r0(X1,X0)", true, "other names and another order"},
		{"X2 :- r0(X3,X2); r0(X2,X3)", "X0 :- r0(X0,X1)", false, "fewer atoms"},
		{"X0 :- r0(X0,X1)", "X1 :- r0(X1,X0)", true, "two names change places"},
		{"X0 :- r0(X0,X1)", "X1 :- r0(X0,X1)", false, "another place in the head"},
		{"X0 :- r0(X0,X1)", "yes :- r0(X0,X1)", false, "no head"},
		{"X0 :- r0(X0,X1)", "X0,X0 :- r0(X0,X1)", false, "a longer head"},
		{"X0,X1 :- r0(X0,X1)", "X1,X0 :- r0(X0,X1)", false, "another order of the head"},
		{"X0,X1 :- r0(X0,X1); r0(X1,X0)", "X1,X0 :- r0(X0,X1); r0(X1,X0)", true, "another order of the head that only changes names"},
		{"X0 :- r0(X0,X1)", "X0 :- r0(X0,X0)", false, "two variables and one"},
		{"yes :- r0(X0,X1); r1(X0)", "yes :- r0(X0,X1); r1(X1)", false, "the other variable"},
		{"yes :- r1(0)", "yes :- r1(X0)", false, "a constant and a variable"},
		{"yes :- r1(5)", "yes :- r1(6)", false, "two constants"},
		{"5 :- r1(X0)", "6 :- r1(X0)", false, "two constants in the head"},
		{"5 :- r1(X0); r1(5)", "5 :- r1(5); r1(X9)", true, "the same constants"},
		{"yes :- r0(5,6)", "yes :- r0(6,5)", false, "constants that change places"},
		{"yes :- r0(5,X0); r0(6,X1)", "yes :- r0(6,X0); r0(5,X1)", true, "another order of atoms with constants"},
		{"yes :- r1(X0); r0(X0,X0)", "yes :- r0(X1,X1); r1(X1)", true, "another order of two relations"},
		{"yes :- r1(X0)", "yes :- r0(X0,X0)", false, "two relations"},
		{"yes :- r0(X0,X1); r0(X1,X2); r0(X2,X0)", "yes :- r0(X2,X1); r0(X1,X0); r0(X0,X2)", true, "a circle of three the other way round"},
		{"yes :- r0(X0,X1); r0(X1,X2); r0(X2,X0)", "yes :- r0(X0,X1); r0(X1,X2); r0(X0,X2)", false, "a circle of three and a step more"},
		{"yes :- r0(X0,X1); r0(X1,X0); r0(X2,X3); r0(X3,X2)", "yes :- r0(X0,X1); r0(X1,X2); r0(X2,X3); r0(X3,X0)", false, "two circles of two and one of four"},
		{"yes :- r0(X0,X1); r0(X1,X0); r0(X2,X3); r0(X3,X2)", "yes :- r0(X9,X4); r0(X1,X7); r0(X4,X9); r0(X7,X1)", true, "two circles of two"},
		{"X0 :- r0(X0,X1); r0(X0,X2)", "X0 :- r0(X0,X1)", false, "equivalent, but not minimal"},
		{"X0 :- r0(X0,X1); r0(X0,X1)", "X0 :- r0(X0,X1)", false, "an atom twice"},
	} {
		a, b := readEvalQuery(t, c.a), readEvalQuery(t, c.b)
		if got := checkIsomorphic(t, querySchema(), a, b); got != c.want {
			t.Errorf("%s: %s and %s: %v", c.note, c.a, c.b, got)
		}
	}
}

// Atoms that are equal up to names: each is the same atom if it stands alone,
// but they are not the same atom of the query.
func TestAtomsEqualUpToNames(t *testing.T) {
	s := querySchema()
	for _, c := range []struct {
		queries string
		want    string
	}{
		{"yes :- r1(X3) | yes :- r1(X0) | yes :- r1(X19)", "yes :- r1(X0)"},
		{"yes :- r1(X3); r1(X4) | yes :- r1(X4); r1(X3) | yes :- r1(X0); r1(X19)", "yes :- r1(X0); r1(X1)"},
		{"yes :- r1(X3); r1(X3) | yes :- r1(X0); r1(X0)", "yes :- r1(X0); r1(X0)"},
		{"yes :- r1(X3); r1(X4); r1(X3) | yes :- r1(X3); r1(X4); r1(X4) | yes :- r1(X1); r1(X1); r1(X0)", "yes :- r1(X0); r1(X0); r1(X1)"},
		{"yes :- r1(X3); r1(X4); r1(X5)", "yes :- r1(X0); r1(X1); r1(X2)"},
		{"yes :- r1(X3); r1(X3); r1(X3)", "yes :- r1(X0); r1(X0); r1(X0)"},
		{"yes :- r1(X8); r1(X6); r1(X7); r1(X9)", "yes :- r1(X0); r1(X1); r1(X2); r1(X3)"},
		{"yes :- r1(X8); r1(X6); r1(X8); r1(X6) | yes :- r1(X6); r1(X6); r1(X8); r1(X8)", "yes :- r1(X0); r1(X0); r1(X1); r1(X1)"},
		{"yes :- r1(X8); r1(X6); r1(X8); r1(X8) | yes :- r1(X6); r1(X6); r1(X8); r1(X6)", "yes :- r1(X0); r1(X0); r1(X0); r1(X1)"},
		{"yes :- r1(X8); r1(X6); r1(X8); r1(X7) | yes :- r1(X6); r1(X8); r1(X7); r1(X6)", "yes :- r1(X0); r1(X0); r1(X1); r1(X2)"},
		{"yes :- r1(X8); r1(X8); r1(X8); r1(X8)", "yes :- r1(X0); r1(X0); r1(X0); r1(X0)"},
		{"X4 :- r1(X3); r1(X4) | X3 :- r1(X3); r1(X4) | X0 :- r1(X1); r1(X0)", "X0 :- r1(X0); r1(X1)"},
		{"X4 :- r1(X4); r1(X4) | X0 :- r1(X0); r1(X0)", "X0 :- r1(X0); r1(X0)"},
		{"X4,X3 :- r1(X3); r1(X4) | X3,X4 :- r1(X3); r1(X4)", "X0,X1 :- r1(X0); r1(X1)"},
		{"X0 :- r0(X0,X1); r0(X0,X2) | X9 :- r0(X9,X2); r0(X9,X1)", "X0 :- r0(X0,X1); r0(X0,X2)"},
		{"X0 :- r0(X0,X1); r0(X0,X1)", "X0 :- r0(X0,X1); r0(X0,X1)"},
		{"X0 :- r0(X0,X1); r0(X2,X3) | X0 :- r0(X4,X5); r0(X0,X6)", "X0 :- r0(X0,X1); r0(X2,X3)"},
		{"X0 :- r0(X1,X0); r0(X2,X3)", "X0 :- r0(X1,X0); r0(X2,X3)"},
		{"yes :- r0(X0,X1); r0(X2,X3); r0(X4,X5); r0(X6,X7) | yes :- r0(X1,X0); r0(X7,X6); r0(X3,X2); r0(X5,X4)", "yes :- r0(X0,X1); r0(X2,X3); r0(X4,X5); r0(X6,X7)"},
		{"yes :- r0(X0,X1); r0(X2,X3); r0(X4,X5); r0(X6,X1) | yes :- r0(X0,X1); r0(X2,X3); r0(X4,X1); r0(X6,X7)", "yes :- r0(X0,X1); r0(X2,X1); r0(X3,X4); r0(X5,X6)"},
		{"yes :- r2(X0,X0,X1); r2(X2,X2,X3) | yes :- r2(X7,X7,X0); r2(X1,X1,X6)", "yes :- r2(X0,X0,X1); r2(X2,X2,X3)"},
		{"yes :- r2(X0,X0,X1); r2(X2,X3,X2)", "yes :- r2(X0,X0,X1); r2(X2,X3,X2)"},
	} {
		var first impl.Query
		for i, text := range strings.Split(c.queries, " | ") {
			q := readEvalQuery(t, text)
			if i == 0 {
				first = q
			}
			if got := checkNormal(t, s, q); queryText(got) != c.want {
				t.Errorf("NormalForm(%s) = %s, want %s", text, queryText(got), c.want)
			}
			if !checkIsomorphic(t, s, first, q) {
				t.Errorf("%s and %s are not isomorphic", queryText(first), text)
			}
		}
	}
}

// As many atoms of one relation as there can be: how many variables they have,
// and how often, is all that makes a difference.
func TestAtomsEqualUpToNamesInAllWays(t *testing.T) {
	s := querySchema()
	for atoms := 1; atoms <= 4; atoms++ {
		forms := map[string]bool{}
		for _, list := range shortLists([]int{3, 0, 19, 7}, atoms) {
			if len(list) != atoms {
				continue
			}
			var q impl.Query
			for _, v := range list {
				q.Body = append(q.Body, impl.Atom{Rel: 1, Args: []int{v}})
			}
			forms[queryText(checkNormal(t, s, q))] = true
		}
		// The numbers of ways to write 1 to 4 as a sum.
		if want := []int{1, 2, 3, 5}[atoms-1]; len(forms) != want {
			t.Errorf("%d atoms have %d normal forms, want %d: %v", atoms, len(forms), want, forms)
		}
	}
}

// Relations with the same number of arguments differ, and the one with the
// least number comes first.
func TestNormalRelations(t *testing.T) {
	s := impl.Schema{Arity: []int{1, 1, 1, 1}}
	var all []impl.Query
	for _, list := range shortLists(indexes(4), 4)[1:] {
		var q impl.Query
		for i, rel := range list {
			q.Body = append(q.Body, impl.Atom{Rel: rel, Args: []int{9 - i%2}})
		}
		checkNormal(t, s, q)
		all = append(all, q)
	}
	same := 0
	for _, a := range all[:100] {
		for _, b := range all[:100] {
			if checkIsomorphic(t, s, a, b) {
				same++
			}
		}
	}
	if same < 150 {
		t.Errorf("only %d isomorphic queries", same)
	}
	q := impl.Query{Head: []int{4}}
	for rel := 3; rel >= 0; rel-- {
		q.Body = append(q.Body, impl.Atom{Rel: rel, Args: []int{4}})
	}
	if got := checkNormal(t, s, q); queryText(got) != "X0 :- r0(X0); r1(X0); r2(X0); r3(X0)" {
		t.Errorf("NormalForm(%s) = %s", queryText(q), queryText(got))
	}
}

// All orders of the atoms and many names: the normal form stays the same.
func TestNormalFormsOfOtherOrdersAndNames(t *testing.T) {
	s := querySchema()
	r := rand.New(rand.NewSource(100))
	for range 300 {
		q := chosenQuery(r)
		want := checkNormal(t, s, q)
		for _, order := range orders(len(q.Body)) {
			other := imageOfQuery(r.Perm(20), inOrder(q, order))
			got, ok := impl.NormalForm(s, other)
			if !ok || !sameQuery(got, want) {
				t.Fatalf("NormalForm(%s) = %s, %v, NormalForm(%s) = %s", queryText(q), queryText(want), ok, queryText(other), queryText(got))
			}
			checkNames(t, other)
			if !impl.IsIsomorphic(s, q, other) {
				t.Fatalf("%s and %s are not isomorphic", queryText(q), queryText(other))
			}
		}
	}
}

// All pairs of queries of up to two atoms with two variables and a constant.
func TestIsomorphicSmallQueries(t *testing.T) {
	s := impl.Schema{Arity: []int{2, 1}}
	all := shortQueries([]int{0, 1, -1}, 2, 1)
	var forms []impl.Query
	for _, q := range all {
		forms = append(forms, checkNormal(t, s, q))
	}
	same := 0
	for i, a := range all {
		for j, b := range all {
			want := sameUpToNames(a, b)
			if sameQuery(forms[i], forms[j]) != want || (i+j)%4 == 0 && impl.IsIsomorphic(s, a, b) != want {
				t.Fatalf("%s and %s: isomorphic %v, with the normal forms %s and %s", queryText(a), queryText(b), want, queryText(forms[i]), queryText(forms[j]))
			}
			if want {
				same++
			}
		}
	}
	if same <= len(all) || same > len(all)*5 {
		t.Errorf("%d isomorphic pairs of %d queries", same, len(all))
	}
}

// Pairs of queries of up to four atoms, of which one is changed a little.
func TestIsomorphicChosenQueries(t *testing.T) {
	s := querySchema()
	r := rand.New(rand.NewSource(101))
	same, different := 0, 0
	for range 5000 {
		a := chosenQuery(r)
		b := imageOfQuery(r.Perm(20), inOrder(a, r.Perm(len(a.Body))))
		if r.Intn(3) > 0 {
			changed := b.Body[r.Intn(len(b.Body))]
			changed.Args[r.Intn(len(changed.Args))] = chosen(r, 0, 1, 7, 19, -1, -3)
		}
		if !impl.IsQuery(s, b) {
			checkNotNormal(t, s, b, a)
			continue
		}
		checkNormal(t, s, b)
		if checkIsomorphic(t, s, a, b) {
			same++
		} else {
			different++
		}
	}
	if same < 1500 || different < 1500 {
		t.Errorf("only %d isomorphic queries and %d others", same, different)
	}
}

// Promise 4, exactly: of all these queries, those with the same answers on all
// of the databases have equal normal forms of their minimal forms, and no
// others have. That the databases suffice is said at TestMinimalFormsByAnswers.
func TestNormalMinimalFormsByAnswers(t *testing.T) {
	for _, c := range []struct {
		queries   []impl.Query
		databases [][]impl.Fact
		forms     int
	}{
		{tripleQueries(), tripleDatabases(), 80},
		{append(shortQueries([]int{0, 1, -1}, 2, 1), shortQueries([]int{0, 1, -1}, 1, 2)...), pairsOfFacts(), 100},
	} {
		s := impl.Schema{Arity: []int{2, 1}}
		byText, byForm := map[string]impl.Query{}, map[string]string{}
		for _, q := range c.queries {
			least := impl.MinimizeQuery(s, q)
			form, text := queryText(checkNormal(t, s, least)), answerText(q, c.databases)
			if other, ok := byText[text]; ok && (byForm[form] != text || !impl.IsIsomorphic(s, least, other)) {
				t.Fatalf("the minimal forms %s and %s of equivalent queries are not isomorphic", queryText(least), queryText(other))
			}
			if other, ok := byForm[form]; ok && other != text {
				t.Fatalf("%s is the normal form of a minimal form of queries that are not equivalent", form)
			}
			byText[text], byForm[form] = least, text
		}
		if len(byText) < c.forms || len(byText) > len(c.queries)/3 {
			t.Errorf("%d queries with %d minimal forms", len(c.queries), len(byText))
		}
		for text, a := range byText {
			for other, b := range byText {
				if impl.IsIsomorphic(s, a, b) != (text == other) {
					t.Fatalf("minimal forms %s and %s: isomorphic %v", queryText(a), queryText(b), impl.IsIsomorphic(s, a, b))
				}
			}
		}
	}
}

// Promise 4: queries of up to four atoms, with equivalent ones and others.
func TestNormalMinimalFormsOfChosenQueries(t *testing.T) {
	s := querySchema()
	r := rand.New(rand.NewSource(102))
	shorter, same, different := 0, 0, 0
	for range 3000 {
		a := chosenQuery(r)
		b := chosenEquivalent(r, a)
		least, other := impl.MinimizeQuery(s, a), impl.MinimizeQuery(s, b)
		if !checkIsomorphic(t, s, least, other) {
			t.Fatalf("the minimal forms %s and %s of equivalent queries are not isomorphic", queryText(least), queryText(other))
		}
		if len(least.Body) < len(b.Body) && len(least.Body) > 1 {
			shorter++
		}
		c := chosenImage(r, a)
		if !impl.IsQuery(s, c) {
			checkNotNormal(t, s, c, a, b)
			continue
		}
		_, there := triedMapping(a, c)
		_, back := triedMapping(c, a)
		isomorphic := checkIsomorphic(t, s, least, impl.MinimizeQuery(s, c))
		if isomorphic != (there && back) {
			t.Fatalf("%s and %s: equivalent %v, isomorphic minimal forms %v", queryText(a), queryText(c), there && back, isomorphic)
		}
		if isomorphic {
			same++
		} else {
			different++
		}
	}
	if shorter < 500 || same < 150 || different < 1000 {
		t.Errorf("only %d shorter queries, %d equivalent ones and %d others", shorter, same, different)
	}
}

// The numbers of atoms and of elements of the head around the limits.
func TestNormalSizes(t *testing.T) {
	s := querySchema()
	for atoms := range 12 {
		for head := range 6 {
			q := impl.Query{Head: slices.Repeat([]int{5}, head)}
			want := impl.Query{Head: slices.Repeat([]int{0}, head)}
			for i := range atoms {
				q.Body = append(q.Body, impl.Atom{Rel: 1, Args: []int{5 + i}})
				want.Body = append(want.Body, impl.Atom{Rel: 1, Args: []int{i}})
			}
			if atoms < 1 || atoms > 4 || head > 3 {
				checkNotNormal(t, s, q, validQueries()...)
				continue
			}
			if got := checkNormal(t, s, q); !sameQuery(got, want) {
				t.Errorf("NormalForm(%s) = %s", queryText(q), queryText(got))
			}
		}
	}
	checkNotNormal(t, s, impl.Query{Body: atomsOf(100000)})
}

// Four atoms with twelve variables, up to the last one, and one beyond each
// limit.
func TestNormalLimits(t *testing.T) {
	s := querySchema()
	q, _ := largestQuery()
	got := checkNormal(t, s, q)
	if want := "X0,X1,X2 :- r2(X2,X3,X4); r2(X5,X6,X0); r2(X1,X7,X8); r2(X9,X10,X11)"; queryText(impl.FirstNames(inOrder(q, []int{0, 3, 2, 1}))) != want {
		t.Errorf("FirstNames of the atoms in another order is not %s", want)
	}
	if want := "X0,X1,X2 :- r2(X1,X3,X4); r2(X2,X5,X6); r2(X7,X8,X0); r2(X9,X10,X11)"; queryText(got) != want {
		t.Errorf("NormalForm(%s) = %s, want %s", queryText(q), queryText(got), want)
	}
	checkNotNormal(t, s, impl.Query{Head: q.Head, Body: append(slices.Clone(q.Body), q.Body[0])}, q)
	checkNotNormal(t, s, impl.Query{Head: append(slices.Clone(q.Head), 8), Body: q.Body}, q)
	for _, n := range noTerms() {
		for atom := range q.Body {
			bad := cloneQuery(q)
			bad.Body[atom].Args[1] = n
			checkNotNormal(t, s, bad, q)
		}
		bad := cloneQuery(q)
		bad.Head[2] = n
		checkNotNormal(t, s, bad, q)
	}
	for _, v := range []int{0, 19} {
		for _, c := range []int{-1, -80} {
			edge := impl.Query{Head: []int{v, c}, Body: []impl.Atom{{Rel: 2, Args: []int{v, c, v}}, {Rel: 1, Args: []int{c}}}}
			want := impl.Query{Head: []int{0, c}, Body: []impl.Atom{{Rel: 1, Args: []int{c}}, {Rel: 2, Args: []int{0, c, 0}}}}
			if got := checkNormal(t, s, edge); !sameQuery(got, want) {
				t.Errorf("NormalForm(%s) = %s", queryText(edge), queryText(got))
			}
		}
	}
}

func TestNormalInvalid(t *testing.T) {
	s := querySchema()
	for _, q := range validQueries() {
		checkNormal(t, s, q)
		for _, bad := range invalidSchemas() {
			checkNotNormal(t, bad, q, validQueries()...)
		}
	}
	for _, bad := range invalidQueries() {
		checkNotNormal(t, s, bad, validQueries()...)
	}
	// Valid for one schema only.
	q := impl.Query{Head: []int{0}, Body: []impl.Atom{{Args: []int{0}}, {Args: []int{1}}}}
	checkNormal(t, impl.Schema{Arity: []int{1}}, q)
	checkNotNormal(t, impl.Schema{Arity: []int{2}}, q, impl.Query{Head: []int{0}, Body: []impl.Atom{{Args: []int{0, 1}}}})
	// Two queries that only differ in names, but are not valid: a variable of the
	// head that no atom has, and an atom of no relation.
	checkNotNormal(t, s, impl.Query{Head: []int{3}, Body: atomsOf(2)}, impl.Query{Head: []int{4}, Body: atomsOf(2)})
	checkNotNormal(t, s, impl.Query{Body: []impl.Atom{{Rel: 3, Args: []int{0}}}}, impl.Query{Body: []impl.Atom{{Rel: 3, Args: []int{1}}}})
}

// The arguments stay as they are, with the memory behind them.
func TestNormalLeavesArgumentsAlone(t *testing.T) {
	s := impl.Schema{Arity: []int{2, 1, 9}[:2]}
	terms := []int{5, 4, 5, 4, 9}
	atoms := []impl.Atom{{Args: terms[:2]}, {Rel: 1, Args: terms[2:3]}, {Rel: 1, Args: terms[1:2]}, {Args: terms[1:3]}, {Rel: 9}}
	q := impl.Query{Head: terms[2:3], Body: atoms[:4]}
	part := impl.Query{Head: terms[2:3], Body: atoms[:2]}
	bad := impl.Query{Head: terms[4:], Body: atoms[:4]}
	for range 3 {
		for _, each := range []impl.Query{q, part, bad} {
			impl.FirstNames(each)
			impl.NormalForm(s, each)
			impl.QueryCode(each)
			for _, other := range []impl.Query{q, part, bad} {
				impl.IsIsomorphic(s, each, other)
			}
		}
		if !slices.Equal(terms, []int{5, 4, 5, 4, 9}) || !slices.Equal(s.Arity[:3], []int{2, 1, 9}) {
			t.Fatalf("the arguments are now %v, %v", terms, s)
		}
		if queryText(q) != "X5 :- r0(X5,X4); r1(X5); r1(X4); r0(X4,X5)" || atoms[4].Rel != 9 || atoms[4].Args != nil {
			t.Fatalf("the atoms are now %v", atoms)
		}
	}
}

// A result is new memory, and no two of its slices share any, whether or not
// names or the order had to change.
func TestNormalResultsShareNoMemory(t *testing.T) {
	s := querySchema()
	shared := []int{0, 0, 1, 1, 2, 2, 0}
	named := []impl.Atom{{Args: shared[:2]}, {Args: shared[1:3]}, {Rel: 1, Args: shared[3:4]}, {Rel: 1, Args: shared[3:4]}}
	other := []impl.Atom{{Rel: 1, Args: shared[4:5]}, {Args: shared[3:5]}, {Args: shared[3:5]}, {Args: shared[1:3]}}
	for _, q := range []impl.Query{
		{Head: shared[:1], Body: named},
		{Head: shared[:3], Body: named[:2]},
		{Body: named[:1]},
		{Head: shared[2:5], Body: other},
		{Body: other[:2]},
		{Head: shared, Body: other},
		{Body: slices.Concat(named, other)},
		{Head: shared[:0], Body: named[:0]},
		{Head: shared[:2]},
		{},
	} {
		want := cloneQuery(q)
		first := impl.FirstNames(q)
		normal, _ := impl.NormalForm(s, q)
		code := impl.QueryCode(q)
		for _, result := range []impl.Query{first, normal} {
			checkOwnQuery(t, result)
			if !sameQuery(q, want) {
				t.Fatalf("a change of the result changed the query to %v", q)
			}
		}
		for _, a := range slices.Concat(first.Body, normal.Body) {
			if a.Rel != 7 || len(a.Args) != 0 {
				t.Fatalf("a change of one result left %v", a)
			}
		}
		if !slices.Equal(code, codeOf(want)) {
			t.Fatalf("a change of another result changed the code to %v", code)
		}
		overwrite(code)
		if !sameQuery(q, want) {
			t.Fatalf("a change of the code changed the query to %v", q)
		}
	}
}

// A query may be changed as soon as its normal form is there: nothing reads it
// any more.
func TestNormalFormEndsItsWork(t *testing.T) {
	s := querySchema()
	q, _ := largestQuery()
	want, _ := impl.NormalForm(s, q)
	before := runtime.NumGoroutine()
	for range 2000 {
		changed := cloneQuery(q)
		got, ok := impl.NormalForm(s, changed)
		for i, a := range changed.Body {
			overwrite(a.Args)
			changed.Body[i] = impl.Atom{}
		}
		if !ok || !sameQuery(got, want) {
			t.Fatalf("NormalForm(%s) = %s, %v", queryText(q), queryText(got), ok)
		}
		impl.NormalForm(s, impl.Query{Head: q.Head, Body: append(slices.Clone(q.Body), q.Body[0])})
	}
	// The last sender may still be about to end.
	for range 1000 {
		if runtime.NumGoroutine() <= before {
			return
		}
		time.Sleep(10 * time.Millisecond)
	}
	t.Errorf("%d goroutines are left, before there were %d", runtime.NumGoroutine(), before)
}

// Calls at the same time for the same query have the results of calls one after
// the other.
func TestNormalFormsAtTheSameTime(t *testing.T) {
	s := querySchema()
	r := rand.New(rand.NewSource(103))
	for range 20 {
		a, b := chosenQuery(r), chosenQuery(r)
		want, _ := impl.NormalForm(s, a)
		same := sameUpToNames(a, b)
		var group sync.WaitGroup
		wrong := make([]bool, 16)
		for n := range wrong {
			group.Go(func() {
				for range 20 {
					got, ok := impl.NormalForm(s, a)
					wrong[n] = wrong[n] || !ok || !sameQuery(got, want) || impl.IsIsomorphic(s, a, b) != same
				}
			})
		}
		group.Wait()
		if slices.Contains(wrong, true) {
			t.Fatalf("%s has other results at the same time", queryText(a))
		}
	}
}

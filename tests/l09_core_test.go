package tests

import (
	"math"
	"math/rand"
	"slices"
	"strconv"
	"strings"
	"testing"

	"loop.example/g01985/impl"
)

// droppedAtom returns the query without the atom with the index i, which is
// there, and whether it has an atom left and each variable of its head.
func droppedAtom(q impl.Query, i int) (impl.Query, bool) {
	shorter := impl.Query{Head: q.Head}
	for j, a := range q.Body {
		if j != i {
			shorter.Body = append(shorter.Body, a)
		}
	}
	missing := func(t int) bool { return t >= 0 && !mentions(shorter.Body, t) }
	return shorter, len(shorter.Body) > 0 && !slices.ContainsFunc(q.Head, missing)
}

// triedRedundant reports whether there are mappings in both directions between
// a valid query and the query without this atom.
func triedRedundant(q impl.Query, i int) bool {
	shorter, ok := droppedAtom(q, i)
	if !ok {
		return false
	}
	_, there := triedMapping(q, shorter)
	_, back := triedMapping(shorter, q)
	return there && back
}

// triedMinimal removes the first redundant atom and begins anew, until there is
// none.
func triedMinimal(q impl.Query) impl.Query {
	for i := 0; i < len(q.Body); i++ {
		if triedRedundant(q, i) {
			q, _ = droppedAtom(q, i)
			i = -1
		}
	}
	return q
}

// fewestAtoms returns the least number of atoms of a part of the body that,
// with the same head, is a valid query to which the query can be mapped. No
// equivalent query has fewer atoms.
func fewestAtoms(q impl.Query) int {
	fewest := len(q.Body)
	for set := 1; set < 1<<len(q.Body); set++ {
		part := impl.Query{Head: q.Head}
		for i, a := range q.Body {
			if set>>i&1 == 1 {
				part.Body = append(part.Body, a)
			}
		}
		if _, ok := triedMapping(q, part); ok {
			fewest = min(fewest, len(part.Body))
		}
	}
	return fewest
}

// orders returns the lists of the numbers below n in all orders.
func orders(n int) [][]int {
	if n == 0 {
		return [][]int{nil}
	}
	var all [][]int
	for _, l := range orders(n - 1) {
		for i := range n {
			all = append(all, slices.Insert(slices.Clone(l), i, n-1))
		}
	}
	return all
}

// shapeOf returns a text that two queries have in common exactly if they differ
// only in the names of variables and the order of atoms: of the texts for all
// orders of the atoms, with the variables numbered as they occur, the least.
func shapeOf(q impl.Query) string {
	least := ""
	for _, order := range orders(len(q.Body)) {
		numbers := map[int]int{}
		var text strings.Builder
		write := func(terms []int) {
			for _, n := range terms {
				if n < 0 {
					text.WriteString(" c" + strconv.Itoa(-1-n))
					continue
				}
				if _, ok := numbers[n]; !ok {
					numbers[n] = len(numbers)
				}
				text.WriteString(" v" + strconv.Itoa(numbers[n]))
			}
		}
		write(q.Head)
		for _, i := range order {
			text.WriteString(" r" + strconv.Itoa(q.Body[i].Rel))
			write(q.Body[i].Args)
		}
		if least == "" || text.String() < least {
			least = text.String()
		}
	}
	return least
}

// checkWithoutAtom checks what the functions return for one atom of a valid
// query.
func checkWithoutAtom(t *testing.T, s impl.Schema, q impl.Query, i int) {
	t.Helper()
	want, wantOk := droppedAtom(q, i)
	if !wantOk {
		want = q
	}
	if got, ok := impl.WithoutAtom(s, q, i); ok != wantOk || !sameQuery(got, want) {
		t.Fatalf("WithoutAtom(%s, %d) = %v, %v", queryText(q), i, got, ok)
	}
	if got := impl.IsRedundant(s, q, i); got != triedRedundant(q, i) {
		t.Fatalf("IsRedundant(%s, %d) = %v", queryText(q), i, got)
	}
}

// checkNoAtom checks what the functions return if there is no such atom or the
// query is not valid.
func checkNoAtom(t *testing.T, s impl.Schema, q impl.Query, i int) {
	t.Helper()
	if got, ok := impl.WithoutAtom(s, q, i); ok || !sameQuery(got, q) {
		t.Errorf("WithoutAtom(%v, %v, %d) = %v, %v", s, q, i, got, ok)
	}
	if impl.IsRedundant(s, q, i) {
		t.Errorf("IsRedundant(%v, %v, %d) = true", s, q, i)
	}
}

// checkMinimal checks what the functions return for a valid query and all its
// atoms. It returns the minimal form.
func checkMinimal(t *testing.T, s impl.Schema, q impl.Query) impl.Query {
	t.Helper()
	for i := range q.Body {
		checkWithoutAtom(t, s, q, i)
	}
	want, got := triedMinimal(q), impl.MinimizeQuery(s, q)
	if !sameQuery(got, want) || len(got.Body) != fewestAtoms(q) {
		t.Fatalf("MinimizeQuery(%s) = %s, want %s", queryText(q), queryText(got), queryText(want))
	}
	if impl.IsMinimal(s, q) != (len(want.Body) == len(q.Body)) || !impl.IsMinimal(s, got) {
		t.Fatalf("IsMinimal(%s) = %v and IsMinimal(%s) = %v", queryText(q), impl.IsMinimal(s, q), queryText(got), impl.IsMinimal(s, got))
	}
	if again := impl.MinimizeQuery(s, got); !sameQuery(again, got) {
		t.Fatalf("MinimizeQuery(%s) = %s", queryText(got), queryText(again))
	}
	return got
}

// checkNotMinimal checks what the functions return for a query that is not
// valid.
func checkNotMinimal(t *testing.T, s impl.Schema, q impl.Query) {
	t.Helper()
	for _, i := range []int{-1, 0, 1, len(q.Body) - 1, len(q.Body)} {
		checkNoAtom(t, s, q, i)
	}
	if got := impl.MinimizeQuery(s, q); !sameQuery(got, q) {
		t.Errorf("MinimizeQuery(%v, %v) = %v", s, q, got)
	}
	if impl.IsMinimal(s, q) {
		t.Errorf("IsMinimal(%v, %v) = true", s, q)
	}
}

// The wanted minimal forms are written out here, with the indexes of the
// redundant atoms.
func TestMinimizeQuery(t *testing.T) {
	s := querySchema()
	for _, c := range []struct {
		query     string
		redundant []int
		least     string
		note      string
	}{
		{"X0 :- r0(X0,X1); r0(X0,X2)", []int{0, 1}, "X0 :- r0(X0,X2)", "the first one goes"},
		{"X0 :- r0(X0,X1); r0(X1,X2)", nil, "X0 :- r0(X0,X1); r0(X1,X2)", "a path"},
		{"yes :- r0(X0,X1); r0(X1,X2)", nil, "yes :- r0(X0,X1); r0(X1,X2)", "a path without a head"},
		{"yes :- r0(X0,X1); r0(X2,X3)", []int{0, 1}, "yes :- r0(X2,X3)", "two steps"},
		{"X0 :- r0(X0,X1); r0(X1,X1); r0(X1,X2); r0(X2,X2)", []int{2, 3}, "X0 :- r0(X0,X1); r0(X1,X1)", "a loop behind a loop"},
		{"yes :- r0(X0,X1); r0(X1,X2); r0(X2,X2)", []int{0, 1}, "yes :- r0(X2,X2)", "two atoms go one after the other"},
		{"yes :- r0(X2,X2); r0(X0,X1); r0(X1,X2)", []int{1, 2}, "yes :- r0(X2,X2)", "the same in another order"},
		{"yes :- r0(X0,X1); r0(X1,X0); r0(X2,X3); r0(X3,X2)", []int{0, 1, 2, 3}, "yes :- r0(X2,X3); r0(X3,X2)", "two circles"},
		{"X0,X2 :- r0(X0,X1); r0(X1,X0); r0(X2,X3); r0(X3,X2)", nil, "X0,X2 :- r0(X0,X1); r0(X1,X0); r0(X2,X3); r0(X3,X2)", "two circles with a head"},
		{"X0 :- r0(X0,X1); r0(X1,X0); r0(X2,X3); r0(X3,X2)", []int{2, 3}, "X0 :- r0(X0,X1); r0(X1,X0)", "two circles, of which the head needs one"},
		{"yes :- r0(X0,X1); r0(X1,X0); r0(X2,X3)", []int{2}, "yes :- r0(X0,X1); r0(X1,X0)", "a circle and a step"},
		{"yes :- r0(X0,X1); r0(X1,X2); r0(X2,X0)", nil, "yes :- r0(X0,X1); r0(X1,X2); r0(X2,X0)", "a circle of three"},
		{"X0 :- r0(X0,X1); r0(X0,5)", []int{0}, "X0 :- r0(X0,5)", "a constant says more"},
		{"X0 :- r0(X0,6); r0(X0,5)", nil, "X0 :- r0(X0,6); r0(X0,5)", "two constants"},
		{"5 :- r1(X0); r1(X1); r1(X2)", []int{0, 1, 2}, "5 :- r1(X2)", "a constant in the head"},
		{"5 :- r1(X0); r1(X1); r1(5)", []int{0, 1}, "5 :- r1(5)", "a constant in the head and in the body"},
		{"yes :- r1(X0); r1(X0); r1(X0); r1(X0)", []int{0, 1, 2, 3}, "yes :- r1(X0)", "four times the same"},
		{"yes :- r1(X0); r0(X1,X2); r2(X3,X4,X5); r1(5)", []int{0}, "yes :- r0(X1,X2); r2(X3,X4,X5); r1(5)", "three relations"},
		{"X3 :- r2(X3,X4,X4); r2(X3,X5,X6); r2(X3,X7,X7)", []int{0, 1, 2}, "X3 :- r2(X3,X7,X7)", "each one, but not all"},
		{"X3 :- r2(X3,X4,X5); r2(X3,X6,X6); r1(X6)", []int{0}, "X3 :- r2(X3,X6,X6); r1(X6)", "a term twice says more"},
	} {
		q := readEvalQuery(t, c.query)
		if got := checkMinimal(t, s, q); queryText(got) != c.least {
			t.Errorf("%s: MinimizeQuery(%s) = %s", c.note, c.query, queryText(got))
		}
		for i := range q.Body {
			if got := impl.IsRedundant(s, q, i); got != slices.Contains(c.redundant, i) {
				t.Errorf("%s: IsRedundant(%s, %d) = %v", c.note, c.query, i, got)
			}
		}
		if got := impl.IsMinimal(s, q); got != (len(c.redundant) == 0) {
			t.Errorf("%s: IsMinimal(%s) = %v", c.note, c.query, got)
		}
	}
}

// The index of an atom that goes, and what is left, or the empty string where
// it cannot go: the head needs it, or it is the only one.
func TestWithoutAtom(t *testing.T) {
	s := querySchema()
	for _, c := range []struct {
		query string
		index int
		left  string
	}{
		{"X0 :- r0(X0,X1); r0(X1,X2)", 1, "X0 :- r0(X0,X1)"},
		{"X0 :- r0(X0,X1); r0(X1,X2)", 0, ""},
		{"X0 :- r0(X1,X2); r0(X1,X0)", 0, "X0 :- r0(X1,X0)"},
		{"X0 :- r0(X1,X2); r0(X1,X0)", 1, ""},
		{"X0,X2 :- r0(X0,X1); r0(X1,X2)", 0, ""},
		{"X0,X2 :- r0(X0,X1); r0(X1,X2)", 1, ""},
		{"X1,X1,X1 :- r0(X0,X1); r0(X1,X2)", 0, "X1,X1,X1 :- r0(X1,X2)"},
		{"X1,X1,X1 :- r0(X0,X1); r0(X1,X2)", 1, "X1,X1,X1 :- r0(X0,X1)"},
		// The head needs an atom that is not needed where there is no head.
		{"X0,X1 :- r1(X0); r1(X1)", 0, ""},
		{"X0,X1 :- r1(X0); r1(X1)", 1, ""},
		{"X0 :- r1(X0); r1(X1)", 0, ""},
		{"X0 :- r1(X0); r1(X1)", 1, "X0 :- r1(X0)"},
		{"yes :- r1(X0); r1(X1)", 0, "yes :- r1(X1)"},
		{"yes :- r1(X0); r1(X1)", 1, "yes :- r1(X0)"},
		{"X0 :- r1(X0); r1(X0)", 0, "X0 :- r1(X0)"},
		{"X0 :- r1(X0); r1(5)", 0, ""},
		{"X5,3,X19 :- r1(X5); r1(3); r1(X19); r1(X5)", 0, "X5,3,X19 :- r1(3); r1(X19); r1(X5)"},
		{"X5,3,X19 :- r1(X5); r1(3); r1(X19); r1(X5)", 1, "X5,3,X19 :- r1(X5); r1(X19); r1(X5)"},
		{"X5,3,X19 :- r1(X5); r1(3); r1(X19); r1(X5)", 2, ""},
		{"X5,3,X19 :- r1(X5); r1(3); r1(X19); r1(X5)", 3, "X5,3,X19 :- r1(X5); r1(3); r1(X19)"},
		{"X0 :- r1(X0)", 0, ""},
		{"yes :- r1(X0)", 0, ""},
		{"yes :- r1(5)", 0, ""},
		{"5 :- r1(5)", 0, ""},
	} {
		q := readEvalQuery(t, c.query)
		got, ok := impl.WithoutAtom(s, q, c.index)
		if c.left == "" {
			checkNoAtom(t, s, q, c.index)
		} else if !ok || queryText(got) != c.left {
			t.Errorf("WithoutAtom(%s, %d) = %v, %v, want %s", c.query, c.index, got, ok, c.left)
		}
		checkMinimal(t, s, q)
	}
}

// The head needs an atom by each of its places, at each index.
func TestAtomsThatTheHeadNeeds(t *testing.T) {
	s := querySchema()
	for atoms := 1; atoms <= 4; atoms++ {
		for index := range atoms {
			for place := range 3 {
				for _, v := range []int{1, 19} {
					// Any atom would do for the others.
					q := impl.Query{Head: []int{-1, -2, -3}}
					for i := range atoms {
						q.Body = append(q.Body, impl.Atom{Rel: 2, Args: []int{2 + i, 6 + i, 10 + i}})
					}
					free := checkMinimal(t, s, q)
					q.Body[index].Args[place] = v
					q.Head[place] = v
					checkNoAtom(t, s, q, index)
					want := impl.Query{Head: q.Head, Body: q.Body[index : index+1]}
					if got := checkMinimal(t, s, q); !sameQuery(got, want) || !sameQuery(free, impl.Query{Head: []int{-1, -2, -3}, Body: free.Body[:1]}) {
						t.Errorf("MinimizeQuery(%s) = %s", queryText(q), queryText(got))
					}
				}
			}
		}
	}
}

// Every index, and those that no atom has.
func TestWithoutAtomIndexes(t *testing.T) {
	s := querySchema()
	for _, q := range validQueries() {
		for i := -5; i < 10; i++ {
			if i >= 0 && i < len(q.Body) {
				checkWithoutAtom(t, s, q, i)
			} else {
				checkNoAtom(t, s, q, i)
			}
		}
		for _, i := range []int{math.MinInt, math.MinInt + 1, -1000, 1000, math.MaxInt - 1, math.MaxInt} {
			checkNoAtom(t, s, q, i)
		}
	}
}

// readQueryOf returns a query without a head.
func readQueryOf(texts ...string) impl.Query {
	var q impl.Query
	for _, text := range texts {
		a, _ := impl.ParseAtom(text)
		q.Body = append(q.Body, a)
	}
	return q
}

// The numbers of atoms and of elements of the head around the limits.
func TestMinimalSizes(t *testing.T) {
	s := querySchema()
	for atoms := range 12 {
		for head := range 6 {
			q := impl.Query{Head: slices.Repeat([]int{0}, head), Body: atomsOf(atoms)}
			if atoms < 1 || atoms > 4 || head > 3 {
				checkNotMinimal(t, s, q)
				continue
			}
			want := impl.Query{Head: q.Head, Body: atomsOf(1)}
			if got := checkMinimal(t, s, q); !sameQuery(got, want) {
				t.Errorf("MinimizeQuery(%s) = %s", queryText(q), queryText(got))
			}
		}
	}
	// One atom more than a query can have does not go, although it could.
	checkNotMinimal(t, s, readQueryOf("r0(X0,X1)", "r0(X0,X2)", "r0(X0,X3)", "r0(X0,X4)", "r0(X0,X5)"))
	checkNotMinimal(t, s, impl.Query{Body: atomsOf(100000)})
}

// Four atoms with twelve variables, up to the last one.
func TestMinimalLimits(t *testing.T) {
	s := querySchema()
	q, _ := largestQuery()
	// The head has a variable of each atom but the second one.
	needed := impl.Query{Head: q.Head, Body: []impl.Atom{q.Body[0], q.Body[2], q.Body[3]}}
	if got := checkMinimal(t, s, q); !sameQuery(got, needed) {
		t.Errorf("MinimizeQuery(%s) = %s", queryText(q), queryText(got))
	}
	free := impl.Query{Head: []int{-1, -80, -1}, Body: q.Body}
	if got := checkMinimal(t, s, free); !sameQuery(got, impl.Query{Head: free.Head, Body: q.Body[3:]}) {
		t.Errorf("MinimizeQuery(%s) = %s", queryText(free), queryText(got))
	}
	more := impl.Query{Head: q.Head, Body: append(slices.Clone(q.Body), q.Body[0])}
	longer := impl.Query{Head: append(slices.Clone(q.Head), 8), Body: q.Body}
	checkNotMinimal(t, s, more)
	checkNotMinimal(t, s, longer)
	for _, n := range noTerms() {
		bad := cloneQuery(q)
		bad.Body[3].Args[2] = n
		checkNotMinimal(t, s, bad)
	}
}

func TestMinimalInvalid(t *testing.T) {
	s := querySchema()
	for _, q := range validQueries() {
		checkMinimal(t, s, q)
		for _, bad := range invalidSchemas() {
			checkNotMinimal(t, bad, q)
		}
	}
	for _, bad := range invalidQueries() {
		checkNotMinimal(t, s, bad)
	}
	// Valid for one schema only: not by the atom that would go, nor by the one
	// that would stay.
	q := impl.Query{Body: []impl.Atom{{Args: []int{0}}, {Args: []int{0, 0}}}}
	for arity := 1; arity <= 3; arity++ {
		checkNotMinimal(t, impl.Schema{Arity: []int{arity}}, q)
	}
	short := impl.Query{Body: []impl.Atom{{Args: []int{0}}, {Args: []int{1}}}}
	checkMinimal(t, impl.Schema{Arity: []int{1}}, short)
	checkNotMinimal(t, impl.Schema{Arity: []int{2}}, short)
	// A variable of the head that no atom has: removing another atom changes
	// nothing about it.
	checkNotMinimal(t, s, impl.Query{Head: []int{3}, Body: atomsOf(2)})
}

// All queries of up to two atoms with two variables and a constant, in all
// orders.
func TestMinimalFormsOfAllSmallQueries(t *testing.T) {
	s := impl.Schema{Arity: []int{2, 1}}
	shorter := 0
	for _, q := range shortQueries([]int{0, 1, -1}, 2, 2) {
		if len(checkMinimal(t, s, q).Body) < len(q.Body) {
			shorter++
		}
	}
	if shorter < 100 {
		t.Errorf("only %d queries become shorter", shorter)
	}
}

// tripleQueries returns the queries of up to three atoms in ascending order,
// which may be equal, with three variables and a head of up to one term.
func tripleQueries() []impl.Query {
	some := smallAtoms([]int{0, 1, 2})
	var all []impl.Query
	for _, list := range shortLists(indexes(len(some)), 3)[1:] {
		if !slices.IsSorted(list) {
			continue
		}
		var body []impl.Atom
		for _, n := range list {
			body = append(body, some[n])
		}
		for _, head := range [][]int{nil, {0}, {1}, {2}} {
			if len(head) == 0 || mentions(body, head[0]) {
				all = append(all, impl.Query{Head: head, Body: body})
			}
		}
	}
	return all
}

// tripleDatabases returns the databases of up to three facts of the same
// relations with the values 0 to 2.
func tripleDatabases() [][]impl.Fact {
	all := [][]impl.Fact{nil}
	for _, args := range shortLists([]int{0, 1, 2}, 2)[1:] {
		f := impl.Fact{Rel: 2 - len(args), Args: args}
		for _, db := range all {
			if len(db) < 3 {
				all = append(all, withFact(db, f))
			}
		}
	}
	return all
}

// answerText returns, as one text, the length of the head and the answers on
// each of the databases, the values of which are 0 to 2.
func answerText(q impl.Query, databases [][]impl.Fact) string {
	// The set of the answers of each database has less than 16 bits.
	text := []byte{byte(len(q.Head))}
	for _, db := range databases {
		set := triedAnswerSet(q, db)
		text = append(text, byte(set), byte(set>>8))
	}
	return string(text)
}

// checkFormsByAnswers checks that the minimal forms of two of the queries
// differ only in names and order exactly if the queries have the same answers
// on each of the databases. It returns the number of different forms.
func checkFormsByAnswers(t *testing.T, queries []impl.Query, databases [][]impl.Fact) int {
	t.Helper()
	s := impl.Schema{Arity: []int{2, 1}}
	shapes, texts := map[string]string{}, map[string]string{}
	for _, q := range queries {
		shape, text := shapeOf(checkMinimal(t, s, q)), answerText(q, databases)
		if other, ok := shapes[text]; ok && other != shape {
			t.Fatalf("MinimizeQuery(%s) has the shape %s, an equivalent query %s", queryText(q), shape, other)
		}
		if other, ok := texts[shape]; ok && other != text {
			t.Fatalf("MinimizeQuery(%s) has the shape %s of a query with other answers", queryText(q), shape)
		}
		shapes[text], texts[shape] = shape, text
	}
	return len(shapes)
}

// Promise 4: queries that are not equivalent have different answers on the
// atoms of one of them. Without constants, these are up to three facts with
// three values; with a constant, which has the value 0, and two variables in up
// to two atoms, up to two facts with three values.
func TestMinimalFormsByAnswers(t *testing.T) {
	all := tripleQueries()
	if forms := checkFormsByAnswers(t, all, tripleDatabases()); len(all) < 1300 || forms < 80 || forms > len(all)/5 {
		t.Errorf("%d queries with %d minimal forms", len(all), forms)
	}
	all = append(shortQueries([]int{0, 1, -1}, 2, 1), shortQueries([]int{0, 1, -1}, 1, 2)...)
	if forms := checkFormsByAnswers(t, all, pairsOfFacts()); len(all) < 400 || forms < 100 || forms > len(all)/3 {
		t.Errorf("%d queries with %d minimal forms", len(all), forms)
	}
}

// chosenEquivalent returns a query with other names and another order, to which
// atoms are added that say less than one that is there: some of its arguments
// are new variables.
func chosenEquivalent(r *rand.Rand, q impl.Query) impl.Query {
	same := imageOfQuery(r.Perm(20), q)
	for len(same.Body) < 4 && r.Intn(4) > 0 {
		a := same.Body[r.Intn(len(same.Body))]
		weaker := impl.Atom{Rel: a.Rel, Args: slices.Clone(a.Args)}
		for i := range weaker.Args {
			if r.Intn(2) == 0 {
				weaker.Args[i] = newVariable(r, impl.Query{Head: weaker.Args, Body: same.Body})
			}
		}
		same.Body = append(same.Body, weaker)
	}
	r.Shuffle(len(same.Body), func(i, j int) { same.Body[i], same.Body[j] = same.Body[j], same.Body[i] })
	return same
}

// newVariable returns a variable that the query does not have.
func newVariable(r *rand.Rand, q impl.Query) int {
	for {
		if v := r.Intn(20); !mentions(q.Body, v) && !slices.Contains(q.Head, v) {
			return v
		}
	}
}

// Promise 4: queries of up to four atoms, and equivalent ones.
func TestMinimalFormsOfChosenQueries(t *testing.T) {
	s := querySchema()
	r := rand.New(rand.NewSource(9))
	shorter, different, answers := 0, 0, 0
	for range 4000 {
		a := chosenQuery(r)
		b := chosenEquivalent(r, a)
		least, other := checkMinimal(t, s, a), checkMinimal(t, s, b)
		if shapeOf(least) != shapeOf(other) {
			t.Fatalf("MinimizeQuery(%s) = %s, MinimizeQuery(%s) = %s", queryText(a), queryText(least), queryText(b), queryText(other))
		}
		if len(least.Body) < len(a.Body) {
			shorter++
		}
		if len(a.Body) != len(b.Body) && len(other.Body) > 1 {
			different++
		}
		db := chosenFacts(r)
		tuples := impl.Answers(s, a, db)
		if !sameTuples(tuples, impl.Answers(s, least, db)) || !sameTuples(tuples, impl.Answers(s, other, db)) {
			t.Fatalf("%s, %s and %s have different answers on %v", queryText(a), queryText(least), queryText(other), db)
		}
		answers += len(tuples)
	}
	if shorter < 500 || different < 500 || answers < 2000 {
		t.Errorf("only %d shorter queries, %d different ones and %d answers", shorter, different, answers)
	}
}

// Promise 4: where the minimal forms of two queries differ, one of the queries
// has an answer that the other one does not have.
func TestMinimalFormsOfOtherQueries(t *testing.T) {
	s := querySchema()
	r := rand.New(rand.NewSource(99))
	same, different := 0, 0
	for range 6000 {
		a := chosenQuery(r)
		b := chosenImage(r, a)
		if !impl.IsQuery(s, b) {
			checkNotMinimal(t, s, b)
			continue
		}
		_, there := triedMapping(a, b)
		_, back := triedMapping(b, a)
		equal := shapeOf(impl.MinimizeQuery(s, a)) == shapeOf(impl.MinimizeQuery(s, b))
		if equal != (there && back) {
			t.Fatalf("%s and %s: equivalent %v, equal minimal forms %v", queryText(a), queryText(b), there && back, equal)
		}
		if equal {
			same++
		} else {
			different++
		}
	}
	if same < 300 || different < 2000 {
		t.Errorf("only %d equivalent queries and %d others", same, different)
	}
}

// dedupedAtoms keeps the atoms that no earlier one is equal to.
func dedupedAtoms(atoms []impl.Atom) []impl.Atom {
	var kept []impl.Atom
	for i, a := range atoms {
		if !slices.ContainsFunc(atoms[:i], func(b impl.Atom) bool { return sameAtom(a, b) }) {
			kept = append(kept, a)
		}
	}
	return kept
}

func checkDedupe(t *testing.T, q impl.Query) {
	t.Helper()
	want := impl.Query{Head: q.Head, Body: dedupedAtoms(q.Body)}
	if got := impl.DedupeAtoms(q); !sameQuery(got, want) {
		t.Fatalf("DedupeAtoms(%v) = %v, want %v", q, got, want)
	}
}

// What is left is written out here.
func TestDedupeAtoms(t *testing.T) {
	for _, c := range []struct {
		query string
		left  string
	}{
		{"X0 :- r1(X0); r1(X1); r1(X0)", "X0 :- r1(X0); r1(X1)"},
		{"X1 :- r1(X0); r1(X1); r1(X1); r1(X0)", "X1 :- r1(X0); r1(X1)"},
		{"yes :- r1(X0); r1(X0); r1(X0); r1(X0)", "yes :- r1(X0)"},
		{"X0,X0,5 :- r0(X0,5); r0(5,X0); r0(X0,5); r0(5,5)", "X0,X0,5 :- r0(X0,5); r0(5,X0); r0(5,5)"},
		// Redundant atoms stay, and so does the order.
		{"X0 :- r0(X0,X2); r0(X0,X1)", "X0 :- r0(X0,X2); r0(X0,X1)"},
		{"X0 :- r1(5); r0(X0,X0); r1(X0)", "X0 :- r1(5); r0(X0,X0); r1(X0)"},
		{"X0 :- r2(X0,X0,X0); r0(X0,X0); r1(X0)", "X0 :- r2(X0,X0,X0); r0(X0,X0); r1(X0)"},
		{"yes :- r1(X0); r1(0); r1(X1); r1(1)", "yes :- r1(X0); r1(0); r1(X1); r1(1)"},
		{"yes :- r1(X0)", "yes :- r1(X0)"},
	} {
		q := readEvalQuery(t, c.query)
		if got := impl.DedupeAtoms(q); queryText(got) != c.left {
			t.Errorf("DedupeAtoms(%s) = %s, want %s", c.query, queryText(got), c.left)
		}
		checkDedupe(t, q)
	}
}

// All lists of up to four atoms, which differ in one way each and of which most
// are not valid.
func TestDedupeAnyAtoms(t *testing.T) {
	some := []impl.Atom{
		{},
		{Rel: 1},
		{Args: []int{0}},
		{Args: []int{0, 0}},
		{Args: []int{0, 0, 0}},
		{Args: []int{0, 0, 0, 0}},
		{Args: []int{0, 0, 0, 1}},
		{Args: []int{0, 0, 0, 1, 0, 0, 0}},
		{Args: []int{0, 0, 0, 1, 0, 0, 1}},
		{Rel: math.MinInt, Args: []int{math.MaxInt, math.MinInt}},
		{Rel: math.MaxInt, Args: []int{math.MaxInt, math.MinInt}},
	}
	for _, list := range shortLists(indexes(len(some)), 4) {
		var q impl.Query
		for _, n := range list {
			q.Body = append(q.Body, impl.Atom{Rel: some[n].Rel, Args: slices.Clone(some[n].Args)})
		}
		checkDedupe(t, q)
	}
}

// Any query: heads of any length and terms, and any number of atoms.
func TestDedupeAnyQuery(t *testing.T) {
	checkDedupe(t, impl.Query{})
	checkDedupe(t, impl.Query{Head: []int{}, Body: []impl.Atom{}})
	checkDedupe(t, impl.Query{Head: []int{math.MinInt, -1000, -81, 20, 3, 3, 3, math.MaxInt}, Body: []impl.Atom{{}, {}, {Args: []int{}}}})
	for _, q := range append(validQueries(), invalidQueries()...) {
		checkDedupe(t, q)
		q.Body = slices.Concat(q.Body, q.Body, q.Body)
		checkDedupe(t, q)
	}
	r := rand.New(rand.NewSource(999))
	for range 1000 {
		q := chosenQuery(r)
		for range r.Intn(4) {
			q.Body = append(q.Body, chosenQuery(r).Body...)
			q.Body = append(q.Body, q.Body[r.Intn(len(q.Body))])
		}
		checkDedupe(t, q)
	}
}

// Many atoms, each of which is there many times or only once.
func TestDedupeManyAtoms(t *testing.T) {
	const many = 50000
	for _, different := range []int{1, 7, many} {
		q, want := impl.Query{Head: []int{0}}, impl.Query{Head: []int{0}}
		for n := range many {
			a := impl.Atom{Rel: 5, Args: []int{n % different, -1, 3}}
			q.Body = append(q.Body, a)
			if n < different {
				want.Body = append(want.Body, a)
			}
		}
		if got := impl.DedupeAtoms(q); !sameQuery(got, want) {
			t.Errorf("%d of %d atoms are left, want %d", len(got.Body), many, different)
		}
	}
	long := impl.Atom{Args: slices.Repeat([]int{4}, 100000)}
	other := impl.Atom{Args: append(slices.Repeat([]int{4}, 99999), 5)}
	checkDedupe(t, impl.Query{Body: []impl.Atom{long, other, long, other, long}})
}

// An atom that is there twice changes no counts.
func TestDedupeKeepsBindings(t *testing.T) {
	s := querySchema()
	r := rand.New(rand.NewSource(90))
	counted := 0
	for range 2000 {
		q := chosenQuery(r)
		if len(q.Body) < 4 {
			q.Body = append(q.Body, q.Body[r.Intn(len(q.Body))])
		}
		db := chosenFacts(r)
		want := impl.CountAnswers(s, q, db)
		counted += len(want)
		if got := impl.CountAnswers(s, impl.DedupeAtoms(q), db); !sameCounted(got, want) {
			t.Fatalf("%s has the counts %v, without repeated atoms %v", queryText(q), want, got)
		}
	}
	if counted < 500 {
		t.Errorf("only %d counts", counted)
	}
}

// The arguments stay as they are, with the memory behind them.
func TestMinimalLeavesArgumentsAlone(t *testing.T) {
	s := impl.Schema{Arity: []int{2, 1, 9}[:2]}
	terms := []int{1, 0, 1, 0, 9}
	atoms := []impl.Atom{{Args: terms[:2]}, {Rel: 1, Args: terms[2:3]}, {Rel: 1, Args: terms[1:2]}, {Rel: 1, Args: terms[2:3]}, {Rel: 9}}
	q := impl.Query{Head: terms[2:3], Body: atoms[:4]}
	unused := impl.Query{Head: terms[2:3], Body: atoms[:2]}
	bad := impl.Query{Head: terms[4:], Body: atoms[:4]}
	for range 3 {
		for i := -1; i < 6; i++ {
			for _, each := range []impl.Query{q, unused, bad} {
				impl.WithoutAtom(s, each, i)
				impl.IsRedundant(s, each, i)
			}
		}
		for _, each := range []impl.Query{q, unused, bad} {
			impl.MinimizeQuery(s, each)
			impl.IsMinimal(s, each)
			impl.DedupeAtoms(each)
		}
		if !slices.Equal(terms, []int{1, 0, 1, 0, 9}) || !slices.Equal(s.Arity[:3], []int{2, 1, 9}) {
			t.Fatalf("the arguments are now %v, %v", terms, s)
		}
		if queryText(q) != "X1 :- r0(X1,X0); r1(X1); r1(X0); r1(X1)" || atoms[4].Rel != 9 || atoms[4].Args != nil {
			t.Fatalf("the atoms are now %v", atoms)
		}
	}
}

// checkOwnQuery overwrites the slices of a query one after the other, and each
// time checks that no other one has changed; then it overwrites the atoms.
func checkOwnQuery(t *testing.T, q impl.Query) {
	t.Helper()
	want := cloneQuery(q)
	atoms := q.Body[:cap(q.Body)]
	overwrite(q.Head)
	want.Head = slices.Repeat([]int{77}, len(want.Head))
	// What is left in the unused capacity comes first, while the others are
	// still as they were.
	for i := len(atoms); i >= 0; i-- {
		if i < len(atoms) {
			overwrite(atoms[i].Args)
		}
		if i < len(want.Body) {
			overwrite(want.Body[i].Args)
		}
		if !sameQuery(q, want) {
			t.Fatalf("a change of one slice made the query %v, not %v", q, want)
		}
	}
	for i := range atoms {
		atoms[i] = impl.Atom{Rel: 7}
	}
}

// A result is new memory, and no two of its slices share any, whether or not
// the query could be changed.
func TestMinimalResultsShareNoMemory(t *testing.T) {
	s := querySchema()
	shared := []int{0, 0, 0, 1, 1, 1, 0}
	two := []impl.Atom{{Args: shared[:2]}, {Args: shared[1:3]}, {Args: shared[2:4]}, {Rel: 1, Args: shared[3:4]}}
	for _, q := range []impl.Query{
		{Head: shared[:1], Body: two},
		{Head: shared[:3], Body: two[:2]},
		{Head: shared[2:4], Body: two[2:]},
		{Head: shared[:1], Body: two[:1]},
		{Head: shared, Body: two},
		{Head: shared[3:4], Body: two[:2]},
		{Body: slices.Concat(two, two)},
		{Head: shared[:0], Body: two[:0]},
		{Head: shared[:2]},
		{},
	} {
		want := cloneQuery(q)
		var results []impl.Query
		for i := -1; i <= len(q.Body); i++ {
			result, _ := impl.WithoutAtom(s, q, i)
			results = append(results, result)
		}
		results = append(results, impl.MinimizeQuery(s, q), impl.DedupeAtoms(q))
		for _, result := range results {
			checkOwnQuery(t, result)
			if !sameQuery(q, want) {
				t.Fatalf("a change of the result changed the query to %v", q)
			}
		}
		for i, result := range results {
			for _, a := range result.Body {
				if a.Rel != 7 || len(a.Args) != 0 {
					t.Fatalf("result %d now has the atom %v", i, a)
				}
			}
		}
	}
}

// The order of the results does not depend on earlier calls.
func TestMinimalRepeats(t *testing.T) {
	s := querySchema()
	r := rand.New(rand.NewSource(909))
	for range 300 {
		q := chosenQuery(r)
		q.Body = slices.Concat(q.Body, q.Body)
		first := impl.DedupeAtoms(q)
		q.Body = q.Body[:len(q.Body)/2]
		least := impl.MinimizeQuery(s, q)
		for range 5 {
			if !sameQuery(impl.DedupeAtoms(q), first) || !sameQuery(impl.MinimizeQuery(s, q), least) {
				t.Fatalf("%s has different results", queryText(q))
			}
		}
	}
}

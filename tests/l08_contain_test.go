package tests

import (
	"cmp"
	"math"
	"math/rand"
	"slices"
	"testing"

	"loop.example/g01985/impl"
)

// checkCounterExample checks the counterexample, or that there is none.
func checkCounterExample(t *testing.T, s impl.Schema, a impl.Query, b impl.Query, want bool) {
	t.Helper()
	db, tuple, ok := impl.CounterExample(s, a, b)
	if ok != want {
		t.Fatalf("CounterExample(%s, %s) = %v, %v, %v", queryText(a), queryText(b), db, tuple, ok)
	}
	if !ok {
		if len(db) != 0 || len(tuple) != 0 {
			t.Fatalf("CounterExample(%s, %s) = %v, %v and false", queryText(a), queryText(b), db, tuple)
		}
		return
	}
	facts, head := frozen(a)
	if !sameFacts(db, facts) || !slices.Equal(tuple, head) {
		t.Fatalf("CounterExample(%s, %s) = %v, %v, want %v, %v", queryText(a), queryText(b), db, tuple, facts, head)
	}
	if !impl.IsDatabase(s, db) || !impl.IsAnswer(s, a, db, tuple) || impl.IsAnswer(s, b, db, tuple) {
		t.Fatalf("%v and %v are no counterexample for %s and %s", db, tuple, queryText(a), queryText(b))
	}
}

// checkContainment checks what the functions return for two valid queries by
// the mappings that were tried. It reports whether a is contained in b.
func checkContainment(t *testing.T, s impl.Schema, a impl.Query, b impl.Query) bool {
	t.Helper()
	_, want := triedMapping(b, a)
	_, back := triedMapping(a, b)
	if got := impl.IsContained(s, a, b); got != want {
		t.Fatalf("IsContained(%s, %s) = %v", queryText(a), queryText(b), got)
	}
	if got := impl.IsEquivalent(s, a, b); got != (want && back) {
		t.Fatalf("IsEquivalent(%s, %s) = %v", queryText(a), queryText(b), got)
	}
	checkCounterExample(t, s, a, b, !want && len(a.Head) == len(b.Head))
	return want
}

// checkNoContainment checks what the functions return if one of the queries is
// not valid.
func checkNoContainment(t *testing.T, s impl.Schema, a impl.Query, b impl.Query) {
	t.Helper()
	if impl.IsContained(s, a, b) || impl.IsEquivalent(s, a, b) {
		t.Errorf("%v, %v and %v: IsContained = %v, IsEquivalent = %v", s, a, b, impl.IsContained(s, a, b), impl.IsEquivalent(s, a, b))
	}
	if db, tuple, ok := impl.CounterExample(s, a, b); ok || len(db) != 0 || len(tuple) != 0 {
		t.Errorf("CounterExample(%v, %v, %v) = %v, %v, %v", s, a, b, db, tuple, ok)
	}
}

// What is wanted is written out here: whether the first query is contained in
// the second one, and the second one in the first one.
func TestContainment(t *testing.T) {
	for _, c := range []struct {
		a    string
		b    string
		ab   bool
		ba   bool
		note string
	}{
		{"X0 :- r0(X0,X1); r0(X1,X2)", "X0 :- r0(X0,X1)", true, false, "a longer path"},
		{"X0 :- r0(X0,X1); r0(X0,X2)", "X0 :- r0(X0,X1)", true, true, "an atom that says nothing new"},
		{"X0 :- r0(X0,X1); r0(X2,X1)", "X5 :- r0(X5,X1)", true, true, "an atom that says nothing new and other names"},
		{"X0 :- r0(X0,X0)", "X0 :- r0(X0,X1)", true, false, "a loop"},
		{"X0 :- r0(X0,X0)", "X0 :- r0(X0,X1); r0(X1,X2); r0(X2,X0)", true, false, "a loop is a circle"},
		{"yes :- r0(X0,X1); r0(X1,X0)", "yes :- r0(X0,X1); r0(X1,X2); r0(X2,X3); r0(X3,X0)", true, false, "circles of two and four"},
		{"yes :- r0(X0,X1); r0(X1,X0)", "yes :- r0(X0,X1); r0(X1,X2); r0(X2,X0)", false, false, "circles of two and three"},
		{"X0 :- r0(X0,5)", "X0 :- r0(X0,X1)", true, false, "a constant"},
		{"X0 :- r0(X0,5)", "X0 :- r0(X0,6)", false, false, "two constants"},
		{"5 :- r1(5)", "X0 :- r1(X0)", true, false, "a constant in the head"},
		{"5 :- r1(X0)", "5 :- r1(X1); r1(X2)", true, true, "the same constant in the head"},
		{"5 :- r1(X0)", "6 :- r1(X0)", false, false, "two constants in the head"},
		{"X0,X1 :- r0(X0,X1)", "X1,X0 :- r0(X1,X0)", true, true, "other names"},
		{"X0,X1 :- r0(X0,X1)", "X1,X0 :- r0(X0,X1)", false, false, "another order of the head"},
		{"X0,X0 :- r0(X0,X0)", "X0,X1 :- r0(X0,X1)", true, false, "a term twice in the head"},
		{"X0 :- r0(X0,X1)", "X1 :- r0(X0,X1)", false, false, "the other place"},
		{"X0 :- r1(X0)", "X0 :- r0(X0,X0)", false, false, "two relations"},
		{"X0 :- r1(X0); r0(X0,X1)", "X0 :- r0(X0,X1); r1(X0)", true, true, "another order of the atoms"},
		{"yes :- r1(X0)", "yes :- r1(X19)", true, true, "heads without terms"},
		{"yes :- r1(7)", "yes :- r1(7); r1(X0)", true, true, "heads without terms and a constant"},
	} {
		a, b := readEvalQuery(t, c.a), readEvalQuery(t, c.b)
		if got := checkContainment(t, querySchema(), a, b); got != c.ab {
			t.Errorf("%s: %s contained in %s: %v", c.note, c.a, c.b, got)
		}
		if got := checkContainment(t, querySchema(), b, a); got != c.ba {
			t.Errorf("%s: %s contained in %s: %v", c.note, c.b, c.a, got)
		}
	}
}

// The wanted counterexamples are written out here.
func TestCounterExample(t *testing.T) {
	s := querySchema()
	for _, c := range []struct {
		a     string
		b     string
		facts []string
		tuple []int
	}{
		{"X0 :- r0(X0,X1)", "X0 :- r0(X0,X1); r0(X1,X2)", []string{"r0(80,81)"}, []int{80}},
		{"X1,5 :- r0(X1,X0); r0(X0,X1)", "X1,X0 :- r0(X0,X1)", []string{"r0(80,81)", "r0(81,80)"}, []int{81, 5}},
		{"yes :- r1(X19); r1(0); r1(79); r0(X0,79)", "yes :- r1(5)", []string{"r0(80,79)", "r1(0)", "r1(79)", "r1(99)"}, nil},
		{"X2,X2,X3 :- r2(X3,X2,X3); r2(X3,X2,X3)", "X2,X3,X4 :- r2(X2,X3,X4)", []string{"r2(83,82,83)"}, []int{82, 82, 83}},
		{"79 :- r1(X0)", "78 :- r1(X0)", []string{"r1(80)"}, []int{79}},
	} {
		a, b := readEvalQuery(t, c.a), readEvalQuery(t, c.b)
		db, tuple, ok := impl.CounterExample(s, a, b)
		if !ok || !sameFacts(db, evalFacts(t, c.facts...)) || !slices.Equal(tuple, c.tuple) {
			t.Errorf("CounterExample(%s, %s) = %v, %v, %v", c.a, c.b, db, tuple, ok)
		}
		checkContainment(t, s, a, b)
	}
}

// Heads of different lengths: no query is contained in the other one, and there
// is no counterexample, whatever their bodies are.
func TestContainmentHeads(t *testing.T) {
	s := querySchema()
	for a := range 5 {
		for b := range 5 {
			for _, body := range [][]impl.Atom{atomsOf(1), {{Rel: 1, Args: []int{-1}}}, {{Rel: 1, Args: []int{0}}, {Args: []int{0, 0}}}} {
				first := impl.Query{Head: slices.Repeat([]int{-1}, a), Body: atomsOf(2)}
				second := impl.Query{Head: slices.Repeat([]int{-1}, b), Body: body}
				if a > 3 || b > 3 {
					checkNoContainment(t, s, first, second)
					continue
				}
				got := checkContainment(t, s, second, first)
				if got != (a == b) {
					t.Errorf("a head of %d in one of %d terms: %v", b, a, got)
				}
				if a != b {
					checkNoContainment(t, s, first, second)
				}
			}
		}
	}
	for _, c := range [][]string{
		{"yes :- r0(X0,X1)", "X0 :- r0(X0,X1)"},
		{"X0 :- r0(X0,X1)", "X0,X1 :- r0(X0,X1)"},
		{"X0 :- r0(X0,X0)", "X0,X0 :- r0(X0,X0)"},
		{"X0,X0 :- r0(X0,5)", "X0,X0,X0 :- r0(X0,5); r1(X0)"},
		{"yes :- r1(X0)", "5,5,5 :- r1(5)"},
	} {
		a, b := readEvalQuery(t, c[0]), readEvalQuery(t, c[1])
		checkNoContainment(t, s, a, b)
		checkNoContainment(t, s, b, a)
	}
}

// pairsOfFacts returns the databases of up to two facts of a relation with two
// arguments and of one with one, with the values 0 to 2.
func pairsOfFacts() [][]impl.Fact {
	var facts []impl.Fact
	for _, args := range shortLists([]int{0, 1, 2}, 2)[1:] {
		facts = append(facts, impl.Fact{Rel: 2 - len(args), Args: args})
	}
	all := [][]impl.Fact{nil}
	for i, f := range facts {
		all = append(all, []impl.Fact{f})
		for _, g := range facts[:i] {
			all = append(all, withFact([]impl.Fact{f}, g))
		}
	}
	return all
}

// triedAnswerSet returns a bit for each answer of up to two values from 0 to 2.
func triedAnswerSet(q impl.Query, db []impl.Fact) int {
	set := 0
	for _, b := range triedBindings(q.Body, db) {
		n := 0
		for _, v := range valuesOf(q.Head, b) {
			n = 3*n + v
		}
		set |= 1 << n
	}
	return set
}

// Promise 3: among all queries of up to two atoms with two variables and a
// constant, a query is contained in another one exactly if it has no other
// answers on the databases of up to two facts with three values. A query that
// is not contained has other answers on its own atoms, and these are one or two
// facts, for which three values are enough.
func TestContainmentByAnswers(t *testing.T) {
	s := impl.Schema{Arity: []int{2, 1}}
	terms := []int{0, 1, -1}
	databases := pairsOfFacts()
	all := append(shortQueries(terms, 2, 1), shortQueries(terms, 1, 2)...)
	var sets [][]int
	for _, q := range all {
		set := make([]int, len(databases))
		for n, db := range databases {
			set[n] = triedAnswerSet(q, db)
		}
		sets = append(sets, set)
	}
	inside := func(a, b int) bool {
		for n := range databases {
			if sets[a][n]&^sets[b][n] != 0 {
				return false
			}
		}
		return len(all[a].Head) == len(all[b].Head)
	}
	contained, equivalent := 0, 0
	for i, a := range all {
		for j, b := range all {
			ab, ba := inside(i, j), inside(j, i)
			if ab {
				contained++
			}
			if ab && ba {
				equivalent++
			}
			if impl.IsContained(s, a, b) != ab || impl.IsEquivalent(s, a, b) != (ab && ba) {
				t.Fatalf("%s and %s: IsContained = %v, IsEquivalent = %v", queryText(a), queryText(b), impl.IsContained(s, a, b), impl.IsEquivalent(s, a, b))
			}
			checkCounterExample(t, s, a, b, !ab && len(a.Head) == len(b.Head))
		}
	}
	if contained < 20000 || equivalent < 2000 || contained-equivalent < 10000 {
		t.Errorf("only %d contained and %d equivalent queries", contained, equivalent)
	}
}

// Promise 3: queries of up to four atoms, on databases of up to 24 facts.
func TestContainmentOfChosenQueries(t *testing.T) {
	s := querySchema()
	r := rand.New(rand.NewSource(8))
	contained, missed, answers := 0, 0, 0
	for range 10000 {
		b := chosenQuery(r)
		a := chosenImage(r, b)
		if !impl.IsQuery(s, a) {
			checkNoContainment(t, s, a, b)
			checkNoContainment(t, s, b, a)
			continue
		}
		checkContainment(t, s, b, a)
		if !checkContainment(t, s, a, b) {
			missed++
			continue
		}
		contained++
		for range 2 {
			db := chosenFacts(r)
			for _, tuple := range impl.Answers(s, a, db) {
				answers++
				if !impl.IsAnswer(s, b, db, tuple) {
					t.Fatalf("%s is contained in %s, but %v is no answer of the second one on %v", queryText(a), queryText(b), tuple, db)
				}
			}
		}
	}
	if contained < 2500 || missed < 1000 || answers < 2000 {
		t.Errorf("only %d contained queries, %d others and %d answers", contained, missed, answers)
	}
}

// With other names, another order and an atom twice, a query stays equivalent.
func TestEquivalenceOfChosenQueries(t *testing.T) {
	s := querySchema()
	r := rand.New(rand.NewSource(88))
	for range 3000 {
		a := chosenQuery(r)
		b := imageOfQuery(r.Perm(20), a)
		if len(b.Body) < 4 {
			b.Body = append(b.Body, b.Body[0])
		}
		r.Shuffle(len(b.Body), func(i, j int) { b.Body[i], b.Body[j] = b.Body[j], b.Body[i] })
		if !impl.IsEquivalent(s, a, b) || !impl.IsEquivalent(s, b, a) {
			t.Fatalf("%s and %s are not equivalent", queryText(a), queryText(b))
		}
		checkContainment(t, s, a, b)
	}
}

// Four atoms with twelve variables, up to the last one, and one atom or element
// of the head more.
func TestContainmentLimits(t *testing.T) {
	s := querySchema()
	q, _ := largestQuery()
	free := impl.Query{Head: []int{8, 9, 10}, Body: slices.Clone(q.Body)}
	checkCounterExample(t, s, q, free, true)
	checkCounterExample(t, s, free, q, true)
	if !checkContainment(t, s, q, q) || checkContainment(t, s, q, free) || checkContainment(t, s, free, q) {
		t.Error("containment of the largest queries is wrong")
	}
	more := impl.Query{Head: q.Head, Body: append(slices.Clone(q.Body), q.Body[0])}
	longer := impl.Query{Head: append(slices.Clone(q.Head), 8), Body: q.Body}
	for _, bad := range []impl.Query{more, longer} {
		for _, other := range []impl.Query{q, free, bad} {
			checkNoContainment(t, s, bad, other)
			checkNoContainment(t, s, other, bad)
		}
	}
}

// Every number of atoms on both sides.
func TestContainmentSizes(t *testing.T) {
	s := querySchema()
	for first := range 10 {
		for second := range 10 {
			a := impl.Query{Head: []int{0}, Body: atomsOf(first)}
			b := impl.Query{Head: []int{0}, Body: atomsOf(second)}
			c := impl.Query{Head: []int{-1}, Body: atomsOf(second)}
			if min(first, second) < 1 || max(first, second) > 4 {
				checkNoContainment(t, s, a, b)
				checkNoContainment(t, s, a, c)
			} else if !checkContainment(t, s, a, b) || checkContainment(t, s, a, c) {
				t.Errorf("containment of %d in %d atoms is wrong", first, second)
			}
		}
	}
}

func TestContainmentInvalid(t *testing.T) {
	s := querySchema()
	for _, q := range validQueries() {
		for _, other := range validQueries() {
			checkContainment(t, s, q, other)
			for _, bad := range invalidSchemas() {
				checkNoContainment(t, bad, q, other)
			}
		}
		for _, bad := range invalidQueries() {
			checkNoContainment(t, s, q, bad)
			checkNoContainment(t, s, bad, q)
		}
	}
	for _, bad := range invalidQueries() {
		checkNoContainment(t, s, bad, bad)
	}
	// Valid, but not both for one of these schemas.
	one, two := impl.Query{Body: []impl.Atom{{Args: []int{0}}}}, impl.Query{Body: []impl.Atom{{Args: []int{0, 0}}}}
	for arity := 1; arity <= 3; arity++ {
		checkNoContainment(t, impl.Schema{Arity: []int{arity}}, one, two)
		checkNoContainment(t, impl.Schema{Arity: []int{arity}}, two, one)
	}
}

// frozenNumber returns the value of a term by the words of the specification.
func frozenNumber(n int) int {
	if n < 0 {
		return -1 - n
	}
	return 80 + n
}

func frozenNumbers(terms []int) []int {
	var values []int
	for _, n := range terms {
		values = append(values, frozenNumber(n))
	}
	return values
}

// checkFreeze checks what Freeze returns for a query that can be frozen.
func checkFreeze(t *testing.T, q impl.Query) {
	t.Helper()
	var want []impl.Fact
	for _, a := range q.Body {
		want = append(want, impl.Fact{Rel: a.Rel, Args: frozenNumbers(a.Args)})
	}
	slices.SortFunc(want, func(f, g impl.Fact) int {
		return cmp.Or(cmp.Compare(f.Rel, g.Rel), slices.Compare(f.Args, g.Args))
	})
	want = slices.CompactFunc(want, sameFact)
	db, head := impl.Freeze(q)
	if !sameFacts(db, want) || !slices.Equal(head, frozenNumbers(q.Head)) {
		t.Fatalf("Freeze(%v) = %v, %v, want %v, %v", q, db, head, want, frozenNumbers(q.Head))
	}
	if !slices.Equal(impl.Unfreeze(head), q.Head) {
		t.Fatalf("Unfreeze(%v) = %v, want %v", head, impl.Unfreeze(head), q.Head)
	}
	for _, f := range db {
		a := impl.Atom{Rel: f.Rel, Args: impl.Unfreeze(f.Args)}
		if !slices.ContainsFunc(q.Body, func(b impl.Atom) bool { return sameAtom(a, b) }) {
			t.Fatalf("Freeze(%v) has the fact %v, and %v is no atom", q, f, a)
		}
	}
}

// checkNoFreeze checks that a query cannot be frozen.
func checkNoFreeze(t *testing.T, q impl.Query) {
	t.Helper()
	if db, head := impl.Freeze(q); len(db) != 0 || len(head) != 0 {
		t.Errorf("Freeze(%v) = %v, %v", q, db, head)
	}
}

// The wanted facts are written out here.
func TestFreeze(t *testing.T) {
	for _, c := range []struct {
		query string
		facts []string
		head  []int
	}{
		{"X0 :- r0(X0,X1); r0(X1,X2)", []string{"r0(80,81)", "r0(81,82)"}, []int{80}},
		{"X2,5,X0 :- r0(X1,X2); r0(X0,X1)", []string{"r0(80,81)", "r0(81,82)"}, []int{82, 5, 80}},
		{"yes :- r1(X19)", []string{"r1(99)"}, nil},
		{"0,79 :- r1(79); r1(0)", []string{"r1(0)", "r1(79)"}, []int{0, 79}},
		// The order is that of the values, where constants come first.
		{"yes :- r1(X0); r1(X1); r1(0); r1(1)", []string{"r1(0)", "r1(1)", "r1(80)", "r1(81)"}, nil},
		{"yes :- r2(X0,X0,X0); r1(X19); r0(X1,5); r0(5,X1)", []string{"r0(5,81)", "r0(81,5)", "r1(99)", "r2(80,80,80)"}, nil},
		// An atom twice is one fact.
		{"X3 :- r1(X3); r1(X4); r1(X3); r1(X4)", []string{"r1(83)", "r1(84)"}, []int{83}},
		{"X3 :- r1(X3); r1(X3); r1(X3); r1(X3)", []string{"r1(83)"}, []int{83}},
	} {
		q := readEvalQuery(t, c.query)
		db, head := impl.Freeze(q)
		if !sameFacts(db, evalFacts(t, c.facts...)) || !slices.Equal(head, c.head) {
			t.Errorf("Freeze(%s) = %v, %v", c.query, db, head)
		}
		checkFreeze(t, q)
	}
}

// Every term at every place, and what is no term.
func TestFreezeTerms(t *testing.T) {
	for place := range 9 {
		query := func(n int) impl.Query {
			terms := []int{3, -4, 0, -1, 19, 5, -80, 3, 7}
			terms[place] = n
			return impl.Query{Head: terms[:3], Body: []impl.Atom{{Rel: 2, Args: terms[3:6]}, {Rel: 1, Args: terms[6:7]}, {Args: terms[7:]}}}
		}
		for _, n := range allTerms() {
			checkFreeze(t, query(n))
		}
		for _, n := range noTerms() {
			checkNoFreeze(t, query(n))
		}
	}
	for _, n := range noTerms() {
		checkNoFreeze(t, impl.Query{Head: []int{n}})
		checkNoFreeze(t, impl.Query{Body: []impl.Atom{{Args: []int{n}}}})
		checkNoFreeze(t, impl.Query{Body: append(atomsOf(7), impl.Atom{Rel: 1, Args: []int{n}})})
	}
}

// No schema is needed: a relation may have any number, also with atoms of
// different lengths, and the head any variables.
func TestFreezeAnyQuery(t *testing.T) {
	checkFreeze(t, impl.Query{})
	checkFreeze(t, impl.Query{Head: []int{5, -1, 5}})
	checkFreeze(t, impl.Query{Head: []int{7, 8}, Body: []impl.Atom{{Args: []int{1}}, {}, {Args: []int{1, 1}}, {}, {Args: []int{1, -1, 1}}, {Args: []int{-1}}}})
	relations := []int{5, 4, 3, -1, math.MaxInt, math.MinInt, 1000000, 0}
	for n := range 9 {
		var q impl.Query
		for _, rel := range relations[:n] {
			q.Body = append(q.Body, impl.Atom{Rel: rel, Args: []int{n, -1 - n}})
		}
		checkFreeze(t, q)
		q.Head = []int{19}
		checkFreeze(t, q)
	}
	// The same arguments, and the same list with zeros behind it.
	q := impl.Query{Body: []impl.Atom{{Rel: 1, Args: []int{-1, -1, -1}}, {Rel: 1, Args: []int{0, 0, 0}}, {Rel: 1, Args: []int{0, 0}}, {Rel: 1, Args: []int{0}}, {Rel: 1}, {Args: []int{0}}, {Rel: 2}, {Rel: 1}}}
	checkFreeze(t, q)
	if db, _ := impl.Freeze(q); len(db) != 7 {
		t.Errorf("Freeze(%v) has %d facts", q, len(db))
	}
}

// The numbers of atoms, of arguments and of elements of the head around the
// limits.
func TestFreezeSizes(t *testing.T) {
	for atoms := range 12 {
		different := impl.Query{Head: []int{-1}}
		for n := range atoms {
			different.Body = append(different.Body, impl.Atom{Args: []int{atoms - n, n}})
		}
		// As many atoms, but only one fact.
		equal := impl.Query{Head: []int{0}, Body: atomsOf(atoms)}
		for _, q := range []impl.Query{different, equal} {
			if atoms > 8 {
				checkNoFreeze(t, q)
			} else {
				checkFreeze(t, q)
			}
		}
	}
	checkNoFreeze(t, impl.Query{Body: atomsOf(1000)})
	for n := range 7 {
		terms := slices.Repeat([]int{0}, n)
		for _, q := range []impl.Query{
			{Head: terms},
			{Head: terms, Body: atomsOf(8)},
			{Body: []impl.Atom{{Args: terms}}},
			{Head: []int{0}, Body: append(atomsOf(7), impl.Atom{Args: terms})},
			{Head: []int{0}, Body: append([]impl.Atom{{Args: terms}}, atomsOf(7)...)},
		} {
			if n > 3 {
				checkNoFreeze(t, q)
			} else {
				checkFreeze(t, q)
			}
		}
	}
	checkNoFreeze(t, impl.Query{Head: make([]int, 1000), Body: atomsOf(1)})
	checkNoFreeze(t, impl.Query{Head: []int{0}, Body: []impl.Atom{{Args: make([]int, 1000)}}})
}

// Promise 3: the head is an answer of the query on its own facts.
func TestFreezeChosenQueries(t *testing.T) {
	s := querySchema()
	r := rand.New(rand.NewSource(888))
	for range 3000 {
		q := chosenQuery(r)
		checkFreeze(t, q)
		db, head := impl.Freeze(q)
		if !impl.IsDatabase(s, db) || !impl.IsAnswer(s, q, db, head) {
			t.Fatalf("%v is no answer of %s on %v", head, queryText(q), db)
		}
		long := impl.Query{Head: q.Head, Body: append(slices.Clone(q.Body), chosenQuery(r).Body...)}
		checkFreeze(t, long)
	}
}

// Any numbers.
func TestUnfreeze(t *testing.T) {
	values := []int{0, 1, 78, 79, 80, 81, 98, 99, 100, 1000, -1, -80, -81, math.MaxInt, math.MinInt}
	terms := []int{-1, -2, -79, -80, 0, 1, 18, 19, 20, 920, 0, 79, 80, math.MaxInt - 80, math.MaxInt}
	for n := range len(values) + 1 {
		if got := impl.Unfreeze(values[:n]); !slices.Equal(got, terms[:n]) {
			t.Errorf("Unfreeze(%v) = %v, want %v", values[:n], got, terms[:n])
		}
	}
	for _, n := range allTerms() {
		if got := impl.Unfreeze([]int{frozenNumber(n)}); !slices.Equal(got, []int{n}) {
			t.Errorf("Unfreeze(%d) = %v, want %d", frozenNumber(n), got, n)
		}
	}
	if got := impl.Unfreeze(nil); len(got) != 0 {
		t.Errorf("Unfreeze(nil) = %v", got)
	}
	if got := impl.Unfreeze(slices.Repeat([]int{85}, 100000)); !slices.Equal(got, slices.Repeat([]int{5}, 100000)) {
		t.Error("Unfreeze of many values is wrong")
	}
}

// The arguments stay as they are, with the memory behind them.
func TestContainmentLeavesArgumentsAlone(t *testing.T) {
	s := impl.Schema{Arity: []int{2, 1, 9}[:2]}
	terms := []int{1, 0, 1, 0, 9}
	atoms := []impl.Atom{{Rel: 1, Args: terms[2:3]}, {Args: terms[:2]}, {Rel: 1, Args: terms[2:3]}, {Rel: 1, Args: terms[3:4]}, {Rel: 9}}
	a := impl.Query{Head: terms[2:4], Body: atoms[:4]}
	b := impl.Query{Head: terms[2:4], Body: atoms[:3]}
	values := []int{80, 5, 99}
	for range 3 {
		if !impl.IsContained(s, a, b) || impl.IsContained(s, b, a) || impl.IsEquivalent(s, a, b) {
			t.Fatal("containment is wrong")
		}
		if _, _, ok := impl.CounterExample(s, b, a); !ok {
			t.Fatal("there is no counterexample")
		}
		impl.CounterExample(s, a, b)
		impl.Freeze(a)
		impl.Freeze(b)
		impl.Unfreeze(values[:2])
		if !slices.Equal(terms, []int{1, 0, 1, 0, 9}) || !slices.Equal(s.Arity[:3], []int{2, 1, 9}) || !slices.Equal(values, []int{80, 5, 99}) {
			t.Fatalf("the arguments are now %v, %v, %v", a, values, s)
		}
		if queryText(a) != "X1,X0 :- r1(X1); r0(X1,X0); r1(X1); r1(X0)" || atoms[4].Rel != 9 || atoms[4].Args != nil {
			t.Fatalf("the atoms are now %v", atoms)
		}
	}
}

// A result is new memory, and no two of its slices share any.
func TestContainmentResultsShareNoMemory(t *testing.T) {
	s := querySchema()
	text := "X0,X1 :- r0(X0,X1); r0(X1,X0); r1(5); r0(X0,X1)"
	q := readEvalQuery(t, text)
	other := readEvalQuery(t, "5,5 :- r1(5)")
	for range 2 {
		db, head := impl.Freeze(q)
		if !sameFacts(db, evalFacts(t, "r0(80,81)", "r0(81,80)", "r1(5)")) || !slices.Equal(head, []int{80, 81}) {
			t.Fatalf("Freeze(%s) = %v, %v", text, db, head)
		}
		checkOwnMemory(t, db)
		if !slices.Equal(head, []int{80, 81}) {
			t.Fatalf("a change of the facts changed the head to %v", head)
		}
		db, head, ok := impl.CounterExample(s, q, other)
		if !ok || len(db) != 3 || !slices.Equal(head, []int{80, 81}) {
			t.Fatalf("CounterExample(%s) = %v, %v, %v", text, db, head, ok)
		}
		overwrite(head)
		if !sameFacts(db, evalFacts(t, "r0(80,81)", "r0(81,80)", "r1(5)")) {
			t.Fatalf("a change of the head changed the facts to %v", db)
		}
		checkOwnMemory(t, db)
		if queryText(q) != text {
			t.Fatalf("a change of the results changed the query to %v", q)
		}
	}
	values := []int{80, 5, 99}
	overwrite(impl.Unfreeze(values))
	if !slices.Equal(values, []int{80, 5, 99}) {
		t.Errorf("a change of the result changed the values to %v", values)
	}
}

package tests

import (
	"math"
	"math/rand"
	"slices"
	"strings"
	"testing"

	"loop.example/g01985/impl"
)

// fitted returns the binding with the variables of the atom bound so that it
// becomes the fact.
func fitted(b []int, a impl.Atom, f impl.Fact) ([]int, bool) {
	if a.Rel != f.Rel || len(a.Args) != len(f.Args) {
		return nil, false
	}
	next := slices.Clone(b)
	for i, n := range a.Args {
		if n >= 0 && next[n] == -1 {
			next[n] = f.Args[i]
		}
	}
	return next, slices.Equal(valuesOf(a.Args, next), f.Args)
}

// fittedBindings returns the bindings of a body, in no special order: for each
// atom, it extends all that there are by all facts. Unlike triedBindings, it
// does not try all values of each variable.
func fittedBindings(body []impl.Atom, db []impl.Fact) [][]int {
	all := [][]int{noVariables()}
	for _, a := range body {
		var longer [][]int
		for _, b := range all {
			for _, f := range db {
				if next, ok := fitted(b, a, f); ok {
					longer = append(longer, next)
				}
			}
		}
		all = longer
	}
	return all
}

// fittedCounts returns the counts of a valid query.
func fittedCounts(q impl.Query, db []impl.Fact) []impl.Counted {
	return countedHeads(q.Head, fittedBindings(q.Body, db))
}

// withoutRepeats returns the query with each atom once.
func withoutRepeats(q impl.Query) impl.Query {
	return impl.Query{Head: q.Head, Body: dedupedAtoms(q.Body)}
}

// splitOf returns the fact with 99 at these places, the bits of the set, if it
// has the value there.
func splitOf(f impl.Fact, value int, set int) (impl.Fact, bool) {
	split := impl.Fact{Rel: f.Rel, Args: slices.Clone(f.Args)}
	for i := range 3 {
		if set>>i&1 == 0 {
			continue
		}
		if i >= len(f.Args) || f.Args[i] != value {
			return impl.Fact{}, false
		}
		split.Args[i] = 99
	}
	return split, true
}

// triedDatabases returns the facts that the specification names for a valid
// query, in its order.
func triedDatabases(q impl.Query) [][]impl.Fact {
	facts, _ := frozen(q)
	all := [][]impl.Fact{facts}
	for v := range 20 {
		db := facts
		for _, f := range facts {
			for set := range 8 {
				if split, ok := splitOf(f, 80+v, set); ok {
					db = withFact(db, split)
				}
			}
		}
		all = append(all, db)
	}
	return all
}

// triedWitness returns the first of these on which the counts of two valid
// queries differ, as far as there are not too many facts.
func triedWitness(a impl.Query, b impl.Query) ([]impl.Fact, bool) {
	for _, db := range append(triedDatabases(a), triedDatabases(b)...) {
		if len(db) <= 24 && !sameCounted(fittedCounts(a, db), fittedCounts(b, db)) {
			return db, true
		}
	}
	return nil, false
}

// checkWitness checks what BagWitness returns for two valid queries.
func checkWitness(t *testing.T, s impl.Schema, a impl.Query, b impl.Query) ([]impl.Fact, bool) {
	t.Helper()
	want, wantOk := triedWitness(a, b)
	got, ok := impl.BagWitness(s, a, b)
	if ok != wantOk || !sameFacts(got, want) {
		t.Fatalf("BagWitness(%s, %s) = %v, %v, want %v, %v", queryText(a), queryText(b), got, ok, want, wantOk)
	}
	if !ok {
		return nil, false
	}
	m, n := impl.CountAnswers(s, a, got), impl.CountAnswers(s, b, got)
	if !impl.IsDatabase(s, got) || impl.SameCounts(m, n) || impl.SameCounts(n, m) || !impl.SameCounts(m, m) {
		t.Fatalf("%v is no witness for %s and %s: they have the counts %v and %v", got, queryText(a), queryText(b), m, n)
	}
	return got, true
}

// checkBag checks what the functions return for two valid queries, and returns
// whether they are equivalent and whether there is a witness.
func checkBag(t *testing.T, s impl.Schema, a impl.Query, b impl.Query) (bool, bool) {
	t.Helper()
	same := sameUpToNames(withoutRepeats(a), withoutRepeats(b))
	if impl.BagEquivalent(s, a, b) != same || impl.BagEquivalent(s, b, a) != same {
		t.Fatalf("%s and %s: equivalent %v, the other way round %v, want %v", queryText(a), queryText(b), impl.BagEquivalent(s, a, b), impl.BagEquivalent(s, b, a), same)
	}
	_, there := checkWitness(t, s, a, b)
	_, back := checkWitness(t, s, b, a)
	if there != back || there && same {
		t.Fatalf("%s and %s: equivalent %v, witness %v, the other way round %v", queryText(a), queryText(b), same, there, back)
	}
	return same, there
}

// checkNotBag checks what the functions return for a query that is not valid,
// with itself and others.
func checkNotBag(t *testing.T, s impl.Schema, q impl.Query, others ...impl.Query) {
	t.Helper()
	for _, other := range append(others, q, impl.Query{}) {
		if impl.BagEquivalent(s, q, other) || impl.BagEquivalent(s, other, q) {
			t.Errorf("%v, %v and %v are equivalent", s, q, other)
		}
		if db, ok := impl.BagWitness(s, q, other); ok || len(db) != 0 {
			t.Errorf("BagWitness(%v, %v, %v) = %v, %v", s, q, other, db, ok)
		}
		if db, ok := impl.BagWitness(s, other, q); ok || len(db) != 0 {
			t.Errorf("BagWitness(%v, %v, %v) = %v, %v", s, other, q, db, ok)
		}
	}
}

// Which queries are equivalent with multiplicities is written out here.
func TestBagEquivalent(t *testing.T) {
	for _, c := range []struct {
		a    string
		b    string
		want bool
		note string
	}{
		{"X0 :- r0(X0,X1)", "X1 :- r0(X1,X0)", true, "other names"},
		{"X0 :- r0(X0,X1); r1(X1)", "X0 :- r1(X1); r0(X0,X1)", true, "another order"},
		{"X2 :- r0(X3,X2); r0(X2,X3)", "X0 :- r0(X0,X1); r0(X1,X0)", true, "other names and another order"},
		{"X0 :- r0(X0,X1)", "X1 :- r0(X1,X0); r0(X1,X0)", true, "an atom twice"},
		{"X0 :- r0(X0,X1); r0(X0,X1); r1(X1)", "X0 :- r0(X0,X1); r1(X1); r1(X1)", true, "another atom twice"},
		{"X0 :- r1(X0); r1(X0); r1(X0); r1(X0)", "X7 :- r1(X7)", true, "an atom four times"},
		{"X0 :- r1(X0); r1(X1); r1(X0); r1(X1)", "X7 :- r1(X19); r1(X7)", true, "two atoms twice, alternately"},
		{"yes :- r1(5); r1(5)", "yes :- r1(5)", true, "an atom without variables twice"},
		{"5 :- r1(X0); r1(5)", "5 :- r1(5); r1(X9); r1(5)", true, "a constant in the head"},
		{"X0 :- r0(X0,X1)", "X0 :- r0(X0,X1); r0(X0,X2)", false, "equivalent without multiplicities"},
		{"X0 :- r1(X0)", "X0 :- r1(X0); r1(X1)", false, "an atom of its own more"},
		{"yes :- r1(X0)", "yes :- r1(X0); r1(5)", false, "a constant more"},
		{"yes :- r1(5)", "yes :- r1(X0); r1(5)", false, "a variable more"},
		{"X0 :- r0(X0,X1); r0(X0,X2); r0(X0,X2)", "X0 :- r0(X0,X1); r0(X0,X1); r0(X0,X2)", true, "two atoms, one of them twice"},
		{"X0 :- r0(X0,X1); r0(X0,X2); r0(X0,X3)", "X0 :- r0(X0,X1); r0(X0,X1); r0(X0,X2)", false, "three atoms and two"},
		{"X0 :- r0(X0,X1)", "X1 :- r0(X0,X1)", false, "another place in the head"},
		{"X0,X1 :- r0(X0,X1)", "X1,X0 :- r0(X0,X1)", false, "another order of the head"},
		{"X0,X1 :- r1(X0); r1(X1)", "X1,X0 :- r1(X0); r1(X1)", true, "another order of the head that only changes names"},
		{"X0 :- r1(X0)", "yes :- r1(X0)", false, "no head"},
		{"X0 :- r1(X0)", "X0,X0 :- r1(X0)", false, "a longer head"},
		{"0 :- r1(X0)", "yes :- r1(X0)", false, "the constant 0 and no head"},
		{"0 :- r1(X0)", "0,0 :- r1(X0)", false, "the constant 0 once and twice"},
		{"5 :- r1(X0)", "6 :- r1(X0)", false, "two constants"},
		{"X0 :- r0(X0,X0)", "X0 :- r0(X0,X1)", false, "a loop"},
		{"yes :- r1(X0)", "yes :- r0(X0,X0)", false, "two relations"},
		{"yes :- r1(X0)", "yes :- r1(X0)", true, "the same query"},
	} {
		a, b := readEvalQuery(t, c.a), readEvalQuery(t, c.b)
		got, found := checkBag(t, querySchema(), a, b)
		if got != c.want || found == c.want {
			t.Errorf("%s: %s and %s: equivalent %v, witness %v", c.note, c.a, c.b, got, found)
		}
	}
}

// A witnessCase is a pair of queries with the texts of the facts on which they
// differ, or with nothing if there are none.
type witnessCase struct {
	a    string
	b    string
	want string
	note string
}

// readQueryFor reads a query for any schema.
func readQueryFor(t *testing.T, s impl.Schema, text string) impl.Query {
	t.Helper()
	q, ok := impl.ParseQuery(s, text)
	if !ok {
		t.Fatalf("ParseQuery(%v, %q) = false", s, text)
	}
	return q
}

func checkWitnessCases(t *testing.T, s impl.Schema, cases []witnessCase) {
	t.Helper()
	for _, c := range cases {
		a, b := readQueryFor(t, s, c.a), readQueryFor(t, s, c.b)
		db, ok := checkWitness(t, s, a, b)
		var texts []string
		for _, f := range db {
			texts = append(texts, factText(f))
		}
		if got := strings.Join(texts, " "); got != c.want || ok != (c.want != "") {
			t.Errorf("%s: BagWitness(%s, %s) = %s, %v", c.note, c.a, c.b, got, ok)
		}
		checkBag(t, s, a, b)
	}
}

// The wanted witnesses are written out here.
func TestBagWitness(t *testing.T) {
	checkWitnessCases(t, querySchema(), []witnessCase{
		{"X0 :- r0(X0,X1)", "X0 :- r0(X0,X0)", "r0(80,81)", "the facts of the first query"},
		{"X0 :- r0(X0,X1)", "X0 :- r0(X0,X1); r0(X0,X2)", "r0(80,81) r0(80,99)", "the second variable split"},
		{"X0 :- r0(X0,X1); r0(X0,X2)", "X0 :- r0(X0,X1)", "r0(80,81) r0(80,82)", "the facts of the first query, the other way round"},
		{"yes :- r0(X1,X0)", "yes :- r0(X1,X0); r0(X2,X3)", "r0(81,80) r0(81,99)", "the least variable, not the first one"},
		{"yes :- r0(X0,X0)", "yes :- r0(X0,X0); r0(X0,X1)", "r0(80,80) r0(80,99) r0(99,80) r0(99,99)", "two places of one fact"},
		{"X1 :- r2(X0,X1,X0)", "X1 :- r2(X0,X1,X0); r2(X2,X1,X3)", "r2(80,81,80) r2(80,81,99) r2(99,81,80) r2(99,81,99)", "two places, not side by side"},
		{"X1 :- r0(X0,X1); r1(5)", "X1 :- r0(X2,X1); r1(X0)", "r0(82,81) r1(80)", "the facts of the second query"},
		{"yes :- r2(X3,X3,X3)", "yes :- r2(X3,X3,X3); r2(X3,X3,X1)", "r2(83,83,83) r2(83,83,99) r2(83,99,83) r2(83,99,99) r2(99,83,83) r2(99,83,99) r2(99,99,83) r2(99,99,99)", "three places of one fact"},
		{"yes :- r0(X0,X1); r1(X0)", "yes :- r0(X0,X1); r1(X2)", "r0(80,81) r0(99,81) r1(80) r1(99)", "two facts with one variable"},
		{"X0 :- r1(X0); r0(5,X1); r1(7)", "X0 :- r1(X0); r0(5,X1); r1(7); r0(5,X2)", "r0(5,81) r0(5,99) r1(7) r1(80)", "facts without the variable stay"},
		{"yes :- r1(5)", "yes :- r1(X0); r1(5)", "r1(5) r1(80)", "no variable to split in the first query"},
		{"X0 :- r1(X0)", "X0 :- r1(X0); r0(X0,X1)", "r1(80)", "no answer of the second query"},
		{"X0 :- r1(X0); r0(X0,X1)", "X0 :- r1(X0)", "r0(80,81) r0(80,99) r1(80)", "more bindings of the first query"},
		{"0 :- r1(X0)", "yes :- r1(X0)", "r1(80)", "the constant 0 and no head"},
		{"yes :- r1(0)", "0,0,0 :- r1(0)", "r1(0)", "constants and no head, without variables"},
		{"79 :- r1(X19)", "78 :- r1(X19)", "r1(99)", "two constants"},
		{"X0 :- r0(X0,X1); r0(X0,X1)", "X0 :- r0(X0,X1)", "", "an atom twice"},
		{"X2 :- r0(X3,X2); r0(X2,X3)", "X0 :- r0(X0,X1); r0(X1,X0)", "", "other names and another order"},
		{"yes :- r1(5); r1(5); r1(6)", "yes :- r1(6); r1(5)", "", "no variables"},
	})
}

// One variable with each of the numbers: it splits, except for the last one,
// which has the value 99 already.
func TestBagWitnessOfEachVariable(t *testing.T) {
	s := querySchema()
	for v := range 20 {
		other := (v + 1) % 20
		a := impl.Query{Body: []impl.Atom{{Rel: 1, Args: []int{v}}}}
		b := impl.Query{Body: []impl.Atom{{Rel: 1, Args: []int{v}}, {Rel: 1, Args: []int{other}}}}
		want := []impl.Fact{{Rel: 1, Args: []int{80 + v}}, {Rel: 1, Args: []int{99}}}
		if v == 19 {
			want = []impl.Fact{{Rel: 1, Args: []int{80}}, {Rel: 1, Args: []int{99}}}
		}
		if db, ok := checkWitness(t, s, a, b); !ok || !sameFacts(db, want) {
			t.Errorf("BagWitness(%s, %s) = %v, %v", queryText(a), queryText(b), db, ok)
		}
		checkBag(t, s, a, b)
	}
}

// The variable 19 has the value 99, so that it is not split, and others are
// split into it. Two of these pairs have a witness only with other names.
func TestBagWitnessWithTheLastVariable(t *testing.T) {
	s := querySchema()
	cases := []witnessCase{
		{"X0 :- r0(X0,X1); r1(X19)", "X0 :- r0(X0,X1); r1(X19); r0(X0,X2)", "r0(80,81) r0(80,99) r1(99)", "a value that is there already"},
		{"yes :- r1(X19)", "yes :- r1(X0); r1(X19)", "r1(80) r1(99)", "the facts of the second query"},
		{"yes :- r2(X19,X19,X19); r2(X19,X19,X1); r2(X19,X1,X1); r2(X1,X19,X2)", "yes :- r2(X19,X19,X19); r2(X19,X19,X1); r2(X19,X2,X2); r2(X3,X1,X2)", "r2(83,81,82) r2(83,99,82) r2(99,82,82) r2(99,99,81) r2(99,99,99)", "the variable 1 of the second query"},
		{"yes :- r2(X19,X19,X19); r2(X19,X19,X1); r2(X19,X1,X1); r2(X1,X19,X2)", "yes :- r2(X19,X19,X19); r2(X19,X19,X1); r2(X19,X1,X2); r2(X3,X2,X2)", "r2(83,82,82) r2(83,82,99) r2(83,99,82) r2(83,99,99) r2(99,81,82) r2(99,81,99) r2(99,99,81) r2(99,99,99)", "the variable 2 of the second query"},
		{"yes :- r2(X0,X1,X2); r2(X0,X1,X3); r2(X4,X1,X2); r2(X4,X19,X3)", "yes :- r2(X0,X1,X2); r2(X0,X1,X3); r2(X0,X4,X2); r2(X19,X4,X3)", "", "no witness for queries that are not equivalent"},
		{"yes :- r2(X0,X1,X2); r2(X0,X3,X2); r2(X4,X1,X2); r2(X4,X3,X19)", "yes :- r2(X0,X1,X2); r2(X0,X1,X3); r2(X0,X4,X2); r2(X19,X4,X3)", "", "the same with other places"},
	}
	checkWitnessCases(t, s, cases)
	other := indexes(20)
	other[19] = 9
	for _, c := range cases {
		a, b := readQueryFor(t, s, c.a), readQueryFor(t, s, c.b)
		if impl.BagEquivalent(s, a, b) {
			t.Errorf("%s: %s and %s are equivalent", c.note, c.a, c.b)
		}
		if same, found := checkBag(t, s, imageOfQuery(other, a), imageOfQuery(other, b)); same || !found {
			t.Errorf("%s: %s and %s with another name: equivalent %v, witness %v", c.note, c.a, c.b, same, found)
		}
	}
}

// Facts in which a variable is split are a database as long as they are 24 at
// most.
func TestBagWitnessLimits(t *testing.T) {
	checkWitnessCases(t, impl.Schema{Arity: []int{3, 3, 3, 3}}, []witnessCase{
		{"yes :- r0(X0,X0,X0); r1(X0,X0,X0); r2(X0,X0,X0)", "yes :- r0(X0,X0,X0); r1(X0,X0,X0); r2(X0,X0,X1)", cubes(80, 0, 1, 2), "24 facts"},
		{"yes :- r0(X0,X0,X0); r1(X0,X0,X0); r2(X0,X0,X0); r2(X0,X0,X19)", "yes :- r0(X0,X0,X0); r1(X0,X0,X1); r2(X0,X0,X0); r2(X0,X0,X19)", cubes(80, 0, 1, 2), "24 different facts, some of which arise twice"},
		{"yes :- r0(X0,X0,X0); r1(X0,X0,X0); r2(X0,X0,X0); r3(X1,X1,X1)", "yes :- r0(X0,X0,X0); r1(X0,X0,X0); r2(X0,X0,X2); r3(X1,X1,X1)", "r0(80,80,80) r1(80,80,80) r2(80,80,82) r3(81,81,81)", "25 facts, and 11 that show nothing"},
		{"yes :- r0(X1,X1,X1); r1(X1,X1,X1); r2(X0,X0,X0); r3(0,X0,X1)", "yes :- r0(X1,X1,X1); r1(X1,X1,X2); r2(X0,X0,X0); r3(0,X0,X1)", "r0(81,81,81) r0(81,81,99) r0(81,99,81) r0(81,99,99) r0(99,81,81) r0(99,81,99) r0(99,99,81) r0(99,99,99) r1(81,81,81) r1(81,81,99) r1(81,99,81) r1(81,99,99) r1(99,81,81) r1(99,81,99) r1(99,99,81) r1(99,99,99) r2(80,80,80) r3(0,80,81) r3(0,80,99)", "19 facts after some that show nothing"},
		{"yes :- r0(X0,X0,X0); r1(X0,X0,X0); r2(X0,X0,X0); r3(X0,X0,X0)", "yes :- r0(X0,X0,X0); r1(X0,X0,X0); r2(X0,X0,X0); r3(X0,X0,X1)", "r0(80,80,80) r1(80,80,80) r2(80,80,80) r3(80,80,81)", "32 facts"},
		{"yes :- r0(X0,X0,X0); r1(X0,X0,X0); r2(X0,X0,X0); r3(X0,X0,X1)", "yes :- r0(X0,X0,X0); r1(X0,X0,X0); r2(X0,X0,X0); r3(X0,X2,X1)", "r0(80,80,80) r1(80,80,80) r2(80,80,80) r3(80,82,81)", "28 facts, and 5 that show nothing"},
	})
}

// cubes returns the texts of all facts of these relations with the value and
// 99 at the three places.
func cubes(value int, relations ...int) string {
	var texts []string
	for _, rel := range relations {
		for _, args := range shortLists([]int{value, 99}, 3) {
			if len(args) == 3 {
				texts = append(texts, factText(impl.Fact{Rel: rel, Args: args}))
			}
		}
	}
	return strings.Join(texts, " ")
}

// An atom that is there twice, at every place that it can have, changes nothing,
// and one that is equal up to names is another one.
func TestAtomTwice(t *testing.T) {
	s := querySchema()
	for _, text := range []string{
		"X0 :- r0(X0,X1)",
		"X0,X1 :- r0(X0,X1); r1(X1)",
		"yes :- r0(X0,X0); r1(5)",
		"5,X19 :- r2(X19,5,X19); r2(X19,X19,5); r1(X2)",
		"yes :- r1(79)",
		"X2 :- r1(X2); r1(X3); r1(X4)",
	} {
		q := readEvalQuery(t, text)
		db := evalFacts(t, "r0(1,2)", "r0(1,4)", "r0(2,2)", "r1(2)", "r1(5)", "r1(79)", "r2(2,2,5)", "r2(2,5,2)")
		want := impl.CountAnswers(s, q, db)
		for i := range q.Body {
			for place := range len(q.Body) + 1 {
				twice := impl.Query{Head: q.Head, Body: slices.Insert(slices.Clone(q.Body), place, q.Body[i])}
				if same, found := checkBag(t, s, q, twice); !same || found {
					t.Errorf("%s and %s: equivalent %v, witness %v", text, queryText(twice), same, found)
				}
				if got := impl.CountAnswers(s, twice, db); !impl.SameCounts(got, want) {
					t.Errorf("%s has the counts %v, %s has %v", text, want, queryText(twice), got)
				}
			}
			for _, v := range impl.VarsOf(impl.Query{Body: q.Body[i : i+1]}) {
				names := indexes(20)
				names[v] = 12
				more := impl.Query{Head: q.Head, Body: append(slices.Clone(q.Body), imageOfQuery(names, impl.Query{Body: q.Body[i : i+1]}).Body...)}
				if same, found := checkBag(t, s, q, more); same || !found {
					t.Errorf("%s and %s: equivalent %v, witness %v", text, queryText(more), same, found)
				}
			}
		}
	}
}

// A query with more than four atoms is not valid, however few of them differ.
func TestTooManyAtomsTwice(t *testing.T) {
	s := querySchema()
	for atoms := range 12 {
		q := impl.Query{Head: []int{0}, Body: atomsOf(atoms)}
		others := []impl.Query{{Head: []int{0}, Body: atomsOf(1)}, {Head: []int{3}, Body: []impl.Atom{{Rel: 1, Args: []int{3}}}}, {Head: []int{0}, Body: atomsOf(4)}, {Body: atomsOf(1)}}
		if atoms < 1 || atoms > 4 {
			checkNotBag(t, s, q, others...)
			continue
		}
		for i, other := range others {
			if same, found := checkBag(t, s, q, other); same != (i < 3) || found != (i == 3) {
				t.Errorf("%s and %s: equivalent %v, witness %v", queryText(q), queryText(other), same, found)
			}
		}
	}
	large, _ := largestQuery()
	for i := range large.Body {
		for _, other := range []impl.Query{large, {Head: large.Head[:2], Body: large.Body}} {
			checkNotBag(t, s, impl.Query{Head: large.Head, Body: append(slices.Clone(large.Body), large.Body[i])}, other)
		}
	}
}

func TestTotalCount(t *testing.T) {
	for _, c := range []struct {
		counts []int
		want   int
	}{
		{nil, 0},
		{[]int{0}, 0},
		{[]int{7}, 7},
		{[]int{1, 2, 3}, 6},
		{[]int{5, 5}, 10},
		{[]int{-3, 2}, -1},
		{[]int{math.MaxInt, math.MinInt}, -1},
		{[]int{math.MaxInt - 5, 5}, math.MaxInt},
		{[]int{math.MaxInt, 1}, math.MinInt},
		{slices.Repeat([]int{3}, 100000), 300000},
	} {
		var l []impl.Counted
		for i, n := range c.counts {
			// Tuples of any length, which may be equal, do not matter.
			l = append(l, impl.Counted{Tuple: slices.Repeat([]int{i % 2}, i%5), Count: n})
		}
		if got := impl.TotalCount(l); got != c.want {
			t.Errorf("TotalCount of %d counts = %d, want %d", len(l), got, c.want)
		}
	}
	if got := impl.TotalCount([]impl.Counted{}); got != 0 {
		t.Errorf("TotalCount of an empty list = %d", got)
	}
}

// The total is the number of bindings, on every database.
func TestTotalCountOfAnswers(t *testing.T) {
	s := querySchema()
	r := rand.New(rand.NewSource(110))
	total := 0
	for range 1000 {
		q, db := chosenQuery(r), chosenFacts(r)
		want := len(fittedBindings(q.Body, db))
		if got := impl.TotalCount(impl.CountAnswers(s, q, db)); got != want {
			t.Fatalf("%s has %d bindings on %v, want %d", queryText(q), got, db, want)
		}
		total += want
	}
	if total < 1000 {
		t.Errorf("only %d bindings", total)
	}
}

// Lists of any tuples, in any order and any number, with any counts.
func TestSameCounts(t *testing.T) {
	some := []impl.Counted{
		{},
		{Tuple: []int{0}},
		{Count: 1},
		{Tuple: []int{0}, Count: 1},
		{Tuple: []int{1}, Count: 1},
		{Tuple: []int{0, 0}, Count: 1},
		{Tuple: []int{0, 1}, Count: 1},
		{Tuple: []int{math.MinInt, 0, 0, 7}, Count: math.MaxInt},
		{Tuple: []int{math.MinInt, 0, 0, 8}, Count: math.MaxInt},
		{Tuple: []int{math.MinInt, 0, 0, 7}, Count: -1},
	}
	chosenCounts := func(list []int) []impl.Counted {
		var all []impl.Counted
		for _, n := range list {
			all = append(all, impl.Counted{Tuple: slices.Clone(some[n].Tuple), Count: some[n].Count})
		}
		return all
	}
	lists := shortLists(indexes(len(some)), 2)
	lists = append(lists, []int{3, 4, 5}, []int{3, 5, 4}, []int{3, 3, 4}, []int{3, 4, 4}, []int{3, 4, 6})
	for i, a := range lists {
		for j, b := range lists {
			// No two of the lists, and no two of their elements, are equal.
			if got := impl.SameCounts(chosenCounts(a), chosenCounts(b)); got != (i == j) {
				t.Fatalf("SameCounts(%v, %v) = %v", chosenCounts(a), chosenCounts(b), got)
			}
		}
	}
}

func TestSameCountsEmptyAndMany(t *testing.T) {
	if !impl.SameCounts(nil, []impl.Counted{}) || !impl.SameCounts([]impl.Counted{}, nil) || !impl.SameCounts(nil, nil) {
		t.Error("empty lists have different counts")
	}
	if !impl.SameCounts([]impl.Counted{{Count: 2}}, []impl.Counted{{Tuple: []int{}, Count: 2}}) {
		t.Error("a nil tuple differs from an empty one")
	}
	if impl.SameCounts(nil, []impl.Counted{{}}) || impl.SameCounts([]impl.Counted{{}}, []impl.Counted{}) {
		t.Error("no tuple has the counts of the empty one")
	}
	var up, down, other []impl.Counted
	for n := range 50000 {
		up = append(up, impl.Counted{Tuple: []int{n, 5}, Count: n})
		down = append(down, impl.Counted{Tuple: []int{49999 - n, 5}, Count: 49999 - n})
		other = append(other, impl.Counted{Tuple: []int{n, 5}, Count: n})
	}
	if !impl.SameCounts(up, other) || impl.SameCounts(up, down) || impl.SameCounts(up, other[1:]) || impl.SameCounts(up[:49999], other) {
		t.Error("SameCounts is wrong for many tuples")
	}
	other[49999].Count++
	if impl.SameCounts(up, other) || !impl.SameCounts(up[:49999], other[:49999]) {
		t.Error("SameCounts is wrong for the last count")
	}
	other[49999].Count--
	other[49999].Tuple[1]++
	if impl.SameCounts(up, other) {
		t.Error("SameCounts is wrong for the last tuple")
	}
}

// countText returns, as one text, the length of the head and the counts of all
// answers on each of the databases, the values of which are 0 to 2. There are
// less than 256 bindings.
func countText(q impl.Query, databases [][]impl.Fact) string {
	text := []byte{byte(len(q.Head))}
	for _, db := range databases {
		counts := make([]byte, 9)
		for _, b := range fittedBindings(q.Body, db) {
			n := 0
			for _, v := range valuesOf(q.Head, b) {
				n = 3*n + v
			}
			counts[n]++
		}
		text = append(text, counts...)
	}
	return string(text)
}

// Promise 5, exactly: of all these queries, those with the same counts on all
// of the databases are equivalent, and no others are. The databases suffice, as
// they include the atoms of each query, up to the names of the values.
func TestBagEquivalenceByCounts(t *testing.T) {
	s := impl.Schema{Arity: []int{2, 1}}
	for _, c := range []struct {
		queries   []impl.Query
		databases [][]impl.Fact
		different int
	}{
		{tripleQueries(), tripleDatabases(), 190},
		{append(shortQueries([]int{0, 1, -1}, 2, 1), shortQueries([]int{0, 1, -1}, 1, 2)...), pairsOfFacts(), 160},
	} {
		byText := map[string]impl.Query{}
		for _, q := range c.queries {
			text := countText(q, c.databases)
			if other, ok := byText[text]; ok && !impl.BagEquivalent(s, q, other) {
				t.Fatalf("%s and %s have the same counts, but are not equivalent", queryText(q), queryText(other))
			}
			byText[text] = q
		}
		if len(byText) < c.different || len(byText) > len(c.queries)*2/3 {
			t.Errorf("%d of %d queries are different", len(byText), len(c.queries))
		}
		for text, a := range byText {
			for other, b := range byText {
				if impl.BagEquivalent(s, a, b) != (text == other) {
					t.Fatalf("%s and %s: equivalent %v", queryText(a), queryText(b), impl.BagEquivalent(s, a, b))
				}
				if db, ok := impl.BagWitness(s, a, b); ok != (text != other) || ok && sameCounted(fittedCounts(a, db), fittedCounts(b, db)) {
					t.Fatalf("BagWitness(%s, %s) = %v, %v", queryText(a), queryText(b), db, ok)
				}
			}
		}
	}
}

// All pairs of queries of up to two atoms with two variables and a constant.
func TestBagOfSmallQueries(t *testing.T) {
	s := impl.Schema{Arity: []int{2, 1}}
	all := append(shortQueries([]int{0, 1, -1}, 2, 1), shortQueries([]int{19, -1}, 1, 2)...)
	same, different := 0, 0
	for i, a := range all {
		for j, b := range all {
			// Each query meets all others, some of them the other way round.
			if i > j || (i+j)%8 != 0 {
				continue
			}
			equivalent, found := checkBag(t, s, a, b)
			if equivalent == found {
				t.Fatalf("%s and %s: equivalent %v, witness %v", queryText(a), queryText(b), equivalent, found)
			}
			if equivalent {
				same++
			} else {
				different++
			}
		}
	}
	if same < 150 || different < 10000 {
		t.Errorf("only %d equivalent queries and %d others", same, different)
	}
}

// chosenRepeats returns a query with other names and another order, some atoms
// of which are there several times.
func chosenRepeats(r *rand.Rand, q impl.Query) impl.Query {
	same := imageOfQuery(r.Perm(20), withoutRepeats(q))
	for len(same.Body) < 4 && r.Intn(3) > 0 {
		same.Body = append(same.Body, cloneQuery(same).Body[r.Intn(len(same.Body))])
	}
	r.Shuffle(len(same.Body), func(i, j int) { same.Body[i], same.Body[j] = same.Body[j], same.Body[i] })
	return same
}

// Promise 5: equivalent queries of up to four atoms, on databases of up to 24
// facts.
func TestEquivalentQueriesHaveTheSameCounts(t *testing.T) {
	s := querySchema()
	r := rand.New(rand.NewSource(111))
	repeated, counted := 0, 0
	for range 3000 {
		a := chosenQuery(r)
		b := chosenRepeats(r, a)
		if same, found := checkBag(t, s, a, b); !same || found {
			t.Fatalf("%s and %s: equivalent %v, witness %v", queryText(a), queryText(b), same, found)
		}
		if len(a.Body) != len(b.Body) {
			repeated++
		}
		for range 3 {
			db := chosenFacts(r)
			m, n := impl.CountAnswers(s, a, db), impl.CountAnswers(s, b, db)
			if !impl.SameCounts(m, n) || impl.TotalCount(m) != impl.TotalCount(n) || !sameCounted(m, fittedCounts(b, db)) {
				t.Fatalf("%s and %s are equivalent, but have the counts %v and %v on %v", queryText(a), queryText(b), m, n, db)
			}
			counted += len(m)
		}
	}
	if repeated < 500 || counted < 3000 {
		t.Errorf("only %d repeated atoms and %d counts", repeated, counted)
	}
}

// Promise 5: where queries of up to four atoms are equivalent only without
// multiplicities, or not at all, there is a database on which they differ.
func TestOtherQueriesHaveOtherCounts(t *testing.T) {
	s := querySchema()
	r := rand.New(rand.NewSource(112))
	same, once, different := 0, 0, 0
	for range 4000 {
		a := chosenQuery(r)
		b := chosenEquivalent(r, a)
		switch r.Intn(3) {
		case 0:
			b = chosenImage(r, a)
		case 1:
			b = chosenRepeats(r, b)
		}
		if !impl.IsQuery(s, b) {
			checkNotBag(t, s, b, a)
			continue
		}
		equivalent, found := checkBag(t, s, a, b)
		// With few atoms and few places, the databases that are tried suffice.
		if equivalent == found {
			t.Fatalf("%s and %s: equivalent %v, witness %v", queryText(a), queryText(b), equivalent, found)
		}
		switch {
		case equivalent:
			same++
		case impl.IsEquivalent(s, a, b):
			once++
		default:
			different++
		}
	}
	if same < 300 || once < 300 || different < 300 {
		t.Errorf("only %d equivalent queries, %d without multiplicities and %d others", same, once, different)
	}
}

// Four atoms with twelve variables, up to the last one, and one beyond each
// limit.
func TestBagOfTheLargestQuery(t *testing.T) {
	s := querySchema()
	q, _ := largestQuery()
	same := imageOfQuery(rand.New(rand.NewSource(113)).Perm(20), inOrder(q, []int{2, 0, 3, 1}))
	if equivalent, found := checkBag(t, s, q, same); !equivalent || found {
		t.Errorf("%s and %s: equivalent %v, witness %v", queryText(q), queryText(same), equivalent, found)
	}
	for i := range 12 {
		other := cloneQuery(q)
		other.Body[i/3].Args[i%3] = 1
		if !impl.IsQuery(s, other) {
			checkNotBag(t, s, other, q)
			continue
		}
		// Another name, which is new, changes nothing.
		if equivalent, found := checkBag(t, s, q, other); !equivalent || found {
			t.Errorf("%s and %s: equivalent %v, witness %v", queryText(q), queryText(other), equivalent, found)
		}
		other.Body[i/3].Args[i%3] = -1
		if equivalent, found := checkBag(t, s, q, other); equivalent || !found {
			t.Errorf("%s and %s: equivalent %v, witness %v", queryText(q), queryText(other), equivalent, found)
		}
	}
	checkNotBag(t, s, impl.Query{Head: append(slices.Clone(q.Head), 8), Body: q.Body}, q)
	for _, n := range noTerms() {
		bad := cloneQuery(q)
		bad.Head[1] = n
		checkNotBag(t, s, bad, q)
		bad = cloneQuery(q)
		bad.Body[3].Args[2] = n
		checkNotBag(t, s, bad, q)
	}
}

func TestBagInvalid(t *testing.T) {
	s := querySchema()
	for _, q := range validQueries() {
		if same, found := checkBag(t, s, q, q); !same || found {
			t.Errorf("%s and itself: equivalent %v, witness %v", queryText(q), same, found)
		}
		for _, bad := range invalidSchemas() {
			checkNotBag(t, bad, q, validQueries()...)
		}
	}
	for _, bad := range invalidQueries() {
		checkNotBag(t, s, bad, validQueries()...)
	}
	// Valid for one schema only, and valid without the atom that is there twice.
	one, two := impl.Query{Body: []impl.Atom{{Args: []int{0}}}}, impl.Query{Body: []impl.Atom{{Args: []int{0, 0}}}}
	checkBag(t, impl.Schema{Arity: []int{1}}, one, one)
	checkNotBag(t, impl.Schema{Arity: []int{1}}, two, one)
	checkNotBag(t, impl.Schema{Arity: []int{2}}, one, two)
	checkNotBag(t, s, impl.Query{Body: atomsOf(100000)}, impl.Query{Body: atomsOf(1)})
}

// The arguments stay as they are, with the memory behind them.
func TestBagLeavesArgumentsAlone(t *testing.T) {
	s := impl.Schema{Arity: []int{2, 1, 9}[:2]}
	terms := []int{5, 4, 5, 4, 9}
	atoms := []impl.Atom{{Args: terms[:2]}, {Rel: 1, Args: terms[2:3]}, {Rel: 1, Args: terms[2:3]}, {Args: terms[1:3]}, {Rel: 9}}
	q := impl.Query{Head: terms[2:3], Body: atoms[:4]}
	part := impl.Query{Head: terms[2:3], Body: atoms[:2]}
	bad := impl.Query{Head: terms[4:], Body: atoms[:4]}
	counts := []impl.Counted{{Tuple: terms[:2], Count: 2}, {Tuple: terms[1:3], Count: 3}, {Count: 4}}
	for range 3 {
		for _, a := range []impl.Query{q, part, bad} {
			for _, b := range []impl.Query{q, part, bad} {
				impl.BagEquivalent(s, a, b)
				impl.BagWitness(s, a, b)
			}
		}
		impl.TotalCount(counts[:2])
		impl.SameCounts(counts[:2], counts[:1])
		impl.SameCounts(counts[:2], counts[1:])
		if !slices.Equal(terms, []int{5, 4, 5, 4, 9}) || !slices.Equal(s.Arity[:3], []int{2, 1, 9}) {
			t.Fatalf("the arguments are now %v, %v", terms, s)
		}
		if queryText(q) != "X5 :- r0(X5,X4); r1(X5); r1(X5); r0(X4,X5)" || atoms[4].Rel != 9 || atoms[4].Args != nil {
			t.Fatalf("the atoms are now %v", atoms)
		}
		if !sameCounted(counts, []impl.Counted{{Tuple: []int{5, 4}, Count: 2}, {Tuple: []int{4, 5}, Count: 3}, {Count: 4}}) {
			t.Fatalf("the counts are now %v", counts)
		}
	}
}

// A result is new memory, and no two of its slices share any, with a variable
// split or not.
func TestBagWitnessSharesNoMemory(t *testing.T) {
	s := querySchema()
	shared := []int{0, 0, 0, 1, 1, 1, 0}
	first := impl.Query{Head: shared[:1], Body: []impl.Atom{{Args: shared[:2]}, {Args: shared[2:4]}}}
	for _, b := range []impl.Query{
		{Head: shared[:1], Body: []impl.Atom{{Args: shared[2:4]}}},
		{Head: shared[:1], Body: []impl.Atom{{Args: shared[:2]}, {Args: shared[2:4]}, {Rel: 2, Args: shared[:3]}}},
		{Head: shared[:1], Body: []impl.Atom{{Rel: 2, Args: shared[:3]}, {Rel: 2, Args: shared[1:4]}}},
		{Body: []impl.Atom{{Rel: 1, Args: shared[:1]}, {Rel: 1, Args: shared[3:4]}}},
	} {
		for _, pair := range [][]impl.Query{{first, b}, {b, first}} {
			want, ok := triedWitness(pair[0], pair[1])
			for range 2 {
				db, found := impl.BagWitness(s, pair[0], pair[1])
				if found != ok || !ok || !sameFacts(db, want) {
					t.Fatalf("BagWitness(%s, %s) = %v, %v, want %v", queryText(pair[0]), queryText(pair[1]), db, found, want)
				}
				checkOwnMemory(t, db)
			}
			if !slices.Equal(shared, []int{0, 0, 0, 1, 1, 1, 0}) {
				t.Fatalf("a change of the result changed the queries to %v", shared)
			}
		}
	}
}

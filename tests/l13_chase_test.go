package tests

import (
	"math"
	"math/rand"
	"slices"
	"strings"
	"testing"

	"loop.example/g01985/impl"
)

// readKeys reads keys that are separated by commas.
func readKeys(t *testing.T, s impl.Schema, texts string) []impl.Key {
	t.Helper()
	var keys []impl.Key
	if texts != "" {
		for _, text := range strings.Split(texts, ", ") {
			keys = append(keys, readKey(t, s, text))
		}
	}
	return keys
}

// equate makes two terms of a list equal, with all that are equal to one of
// them, and reports whether they were not equal before. The list has, for each
// term, the least one that is equal to it.
func equate(least map[int]int, t int, u int) bool {
	a, b := min(least[t], least[u]), max(least[t], least[u])
	for n := range least {
		if least[n] == b {
			least[n] = a
		}
	}
	return a != b
}

// demanded returns, for each term of the atoms, the least one that the keys make
// equal to it. It replaces nothing, but adds equal pairs until there are no
// more.
func demanded(body []impl.Atom, keys []impl.Key) map[int]int {
	least := map[int]int{}
	for _, a := range body {
		for _, n := range a.Args {
			least[n] = n
		}
	}
	for changed := true; changed; {
		changed = false
		for _, k := range keys {
			for _, a := range body {
				for _, b := range body {
					differ := func(place int) bool { return least[a.Args[place]] != least[b.Args[place]] }
					if a.Rel != k.Rel || b.Rel != k.Rel || slices.ContainsFunc(k.Left, differ) {
						continue
					}
					for i := range a.Args {
						changed = equate(least, a.Args[i], b.Args[i]) || changed
					}
				}
			}
		}
	}
	return least
}

// triedChase returns a query with equal terms made one, or false if two
// constants are equal. As constants are less than variables, one of two equal
// ones is not the least term.
func triedChase(q impl.Query, keys []impl.Key) (impl.Query, bool) {
	least := demanded(q.Body, keys)
	for t, n := range least {
		if t < 0 && n != t {
			return impl.Query{}, false
		}
	}
	become := func(terms []int) []int {
		changed := slices.Clone(terms)
		for i, t := range terms {
			if n, ok := least[t]; ok {
				changed[i] = n
			}
		}
		return changed
	}
	chased := impl.Query{Head: become(q.Head)}
	for _, a := range q.Body {
		chased.Body = append(chased.Body, impl.Atom{Rel: a.Rel, Args: become(a.Args)})
	}
	chased.Body = dedupedAtoms(chased.Body)
	return chased, true
}

// checkChase compares ChaseKeys with what was tried, for a valid query and
// valid keys, and chases the result, in which the keys hold, once more.
func checkChase(t *testing.T, s impl.Schema, q impl.Query, keys []impl.Key) (impl.Query, bool) {
	t.Helper()
	want, wantOk := triedChase(q, keys)
	got, ok := impl.ChaseKeys(s, q, keys)
	if ok != wantOk || !sameQuery(got, want) {
		t.Fatalf("ChaseKeys(%s, %v) = %v, %v, want %v, %v", queryText(q), keys, got, ok, want, wantOk)
	}
	if !ok {
		return want, false
	}
	if facts, _ := frozen(got); triedViolation(facts, keys)[0] >= 0 {
		t.Fatalf("ChaseKeys(%s, %v) = %s, in which the keys do not hold", queryText(q), keys, queryText(got))
	}
	if again, ok := impl.ChaseKeys(s, got, keys); !ok || !sameQuery(again, got) {
		t.Fatalf("ChaseKeys(%s, %v) = %v, %v", queryText(got), keys, again, ok)
	}
	return want, true
}

// checkInside checks ContainedUnder by the chase and the mappings that were
// tried, and promise 6: a query that is not contained has an answer on its
// finished chase that the other one does not have.
func checkInside(t *testing.T, s impl.Schema, a impl.Query, b impl.Query, keys []impl.Key) bool {
	t.Helper()
	chased, ok := checkChase(t, s, a, keys)
	_, mapped := triedMapping(b, chased)
	want := len(a.Head) == len(b.Head) && (!ok || mapped)
	if got := impl.ContainedUnder(s, a, b, keys); got != want {
		t.Fatalf("ContainedUnder(%s, %s, %v) = %v", queryText(a), queryText(b), keys, got)
	}
	if !want && len(a.Head) == len(b.Head) {
		facts, head := frozen(chased)
		if triedViolation(facts, keys)[0] >= 0 || !impl.IsAnswer(s, a, facts, head) || impl.IsAnswer(s, b, facts, head) {
			t.Fatalf("%v and %v are no counterexample for %s and %s under %v", facts, head, queryText(a), queryText(b), keys)
		}
	}
	return want
}

// checkUnder checks containment in both directions, and equivalence. It reports
// whether a is contained in b, and b in a.
func checkUnder(t *testing.T, s impl.Schema, a impl.Query, b impl.Query, keys []impl.Key) (bool, bool) {
	t.Helper()
	ab, ba := checkInside(t, s, a, b, keys), checkInside(t, s, b, a, keys)
	if got, back := impl.EquivalentUnder(s, a, b, keys), impl.EquivalentUnder(s, b, a, keys); got != (ab && ba) || back != got {
		t.Fatalf("EquivalentUnder(%s, %s, %v) = %v and back %v", queryText(a), queryText(b), keys, got, back)
	}
	return ab, ba
}

// checkNotUnder checks what the functions return if one of the queries or the
// keys is not valid.
func checkNotUnder(t *testing.T, s impl.Schema, a impl.Query, b impl.Query, keys []impl.Key) {
	t.Helper()
	if impl.ContainedUnder(s, a, b, keys) || impl.ContainedUnder(s, b, a, keys) {
		t.Errorf("ContainedUnder(%v, %v, %v, %v) is true", s, a, b, keys)
	}
	if impl.EquivalentUnder(s, a, b, keys) || impl.EquivalentUnder(s, b, a, keys) {
		t.Errorf("EquivalentUnder(%v, %v, %v, %v) is true", s, a, b, keys)
	}
}

func checkNoChase(t *testing.T, s impl.Schema, q impl.Query, keys []impl.Key) {
	t.Helper()
	if got, ok := impl.ChaseKeys(s, q, keys); ok || !sameQuery(got, impl.Query{}) {
		t.Errorf("ChaseKeys(%v, %v, %v) = %v, %v, want the zero value, false", s, q, keys, got, ok)
	}
}

// The wanted results are written out here.
func TestChaseKeys(t *testing.T) {
	s := querySchema()
	for _, c := range []struct {
		keys  string
		query string
		want  string
		note  string
	}{
		{"key r0 0", "X1,X2 :- r0(X0,X1); r0(X0,X2)", "X1,X1 :- r0(X0,X1)", "the smaller variable stays"},
		{"key r0 0", "X1,X2 :- r0(X0,X2); r0(X0,X1)", "X1,X1 :- r0(X0,X1)", "in either order"},
		{"key r0 0", "X1 :- r0(X0,X1); r0(X0,7); r1(X1)", "7 :- r0(X0,7); r1(7)", "a constant everywhere"},
		{"key r0 0", "X1 :- r0(X0,7); r1(X1); r0(X0,X1)", "7 :- r0(X0,7); r1(7)", "in either order"},
		{"key r0 0", "X19,X19 :- r0(X0,79); r0(X0,X19)", "79,79 :- r0(X0,79)", "the last terms"},
		{"key r0 0", "X0 :- r0(X5,X0); r0(X5,0)", "0 :- r0(X5,0)", "the first terms"},
		{"key r0 0", "X0 :- r0(X0,X1); r0(X2,X1)", "X0 :- r0(X0,X1); r0(X2,X1)", "no violation"},
		{"key r0 1", "X0 :- r0(X0,X1); r0(X2,X1)", "X0 :- r0(X0,X1)", "the other place"},
		{"key r0 1", "X2 :- r0(X2,X1); r0(X0,X1); r1(X2)", "X0 :- r0(X0,X1); r1(X0)", "and another atom"},
		{"key r0 0 1", "X1,X2 :- r0(X0,X1); r0(X0,X2)", "X1,X2 :- r0(X0,X1); r0(X0,X2)", "a key of all places"},
		{"", "X1,X2 :- r0(X0,X1); r0(X0,X2)", "X1,X2 :- r0(X0,X1); r0(X0,X2)", "no keys"},
		{"key r1 0, key r2 0", "X1,X2 :- r0(X0,X1); r0(X0,X2)", "X1,X2 :- r0(X0,X1); r0(X0,X2)", "keys of others"},
		{"", "X0 :- r1(X0); r0(X0,X1); r1(X0)", "X0 :- r1(X0); r0(X0,X1)", "equal atoms without keys"},
		{"key r0 0", "X0 :- r1(X0); r0(X0,X1); r1(X0)", "X0 :- r1(X0); r0(X0,X1)", "equal atoms without a violation"},
		{"key r0 0", "X1 :- r0(X0,X1); r1(X1); r0(X0,X2); r1(X2)", "X1 :- r0(X0,X1); r1(X1)", "atoms that become equal"},
		{"key r0 0", "X3,X4 :- r0(X0,X1); r0(X0,X2); r0(X1,X3); r0(X2,X4)", "X3,X3 :- r0(X0,X1); r0(X1,X3)", "one after the other"},
		{"key r0 0", "X3,X4 :- r0(X2,X4); r0(X1,X3); r0(X0,X2); r0(X0,X1)", "X3,X3 :- r0(X1,X3); r0(X0,X1)", "backwards"},
		{"key r0 0", "X4 :- r0(X0,X4); r0(X0,X3); r0(X0,X2); r0(X0,X1)", "X1 :- r0(X0,X1)", "all of four"},
		{"key r0 0", "X4,X1 :- r0(X0,X4); r0(X0,X3); r0(X0,5); r0(X0,X1)", "5,5 :- r0(X0,5)", "all of four with a constant"},
		{"key r0 0", "X0 :- r0(X0,X0); r0(X0,X1)", "X0 :- r0(X0,X0)", "a loop"},
		{"key r0 0", "X1 :- r0(X1,X1); r0(X1,X0)", "X0 :- r0(X0,X0)", "a loop whose name changes"},
		{"key r0 0", "X1 :- r0(X1,X1); r0(X1,3)", "3 :- r0(3,3)", "a loop that becomes a constant"},
		{"key r0 0", "X1 :- r0(X1,X0); r0(X0,X1)", "X1 :- r0(X1,X0); r0(X0,X1)", "a circle"},
		{"key r0 0", "X1 :- r0(4,X0); r0(4,X1)", "X0 :- r0(4,X0)", "a constant at the place of the key"},
		{"key r0 0", "X1 :- r0(4,X0); r0(5,X1)", "X1 :- r0(4,X0); r0(5,X1)", "two constants there"},
		{"key r0 0", "X1 :- r0(X0,6); r0(X0,6); r0(X1,6)", "X1 :- r0(X0,6); r0(X1,6)", "the same constant"},
		{"key r0 0, key r0 1", "X0,X3 :- r0(X0,X1); r0(X0,X2); r0(X3,X2)", "X0,X0 :- r0(X0,X1)", "two keys in turn"},
		{"key r0 1, key r0 0", "X0,X3 :- r0(X0,X1); r0(X0,X2); r0(X3,X2)", "X0,X0 :- r0(X0,X1)", "the keys the other way round"},
		{"key r2 0", "X1,X2,X4 :- r2(X0,X1,X2); r2(X0,X3,X4)", "X1,X2,X2 :- r2(X0,X1,X2)", "two places that differ"},
		{"key r2 0", "X1,X2,X4 :- r2(X0,X3,X2); r2(X0,X1,X4)", "X1,X2,X2 :- r2(X0,X1,X2)", "each with its smaller variable"},
		{"key r2 0", "X1,X4 :- r2(X0,X3,9); r2(X0,8,X4); r0(X1,X3)", "X1,9 :- r2(X0,8,9); r0(X1,8)", "a constant on each side"},
		{"key r2 1", "X1,X2,X3 :- r2(X0,X1,X2); r2(X3,X1,X0)", "X1,X0,X0 :- r2(X0,X1,X0)", "the second place"},
		{"key r2 2", "X0 :- r2(X0,X1,X2); r2(X1,X3,X2)", "X0 :- r2(X0,X0,X2)", "the last place"},
		{"key r2 0 1", "X2,X3 :- r2(X0,X1,X2); r2(X0,X1,X3); r2(X0,X4,X5)", "X2,X2 :- r2(X0,X1,X2); r2(X0,X4,X5)", "two places of a key"},
		{"key r2 0 2", "X1,X3 :- r2(X0,X1,X2); r2(X0,X3,X2); r2(X1,X0,X2)", "X1,X1 :- r2(X0,X1,X2); r2(X1,X0,X2)", "two places around another one"},
		{"key r2 0 1, key r0 0", "X2,X3 :- r2(X0,X1,X2); r2(X0,X4,X3); r0(X0,X4); r0(X0,X1)", "X2,X2 :- r2(X0,X1,X2); r0(X0,X1)", "one key helps another one"},
		{"key r1 0, key r2 0 1 2, key r0 0 1, key r0 1", "yes :- r0(X3,X5); r0(X4,X5); r1(X4); r2(X3,X4,X5)", "yes :- r0(X3,X5); r1(X3); r2(X3,X3,X5)", "the last of four keys"},
		{"key r0 0", "yes :- r0(X0,X1); r0(X0,X2)", "yes :- r0(X0,X1)", "no head"},
		{"key r0 0", "5,6 :- r0(X0,X1); r0(X0,X2)", "5,6 :- r0(X0,X1)", "constants only in the head"},
	} {
		q, keys := readEvalQuery(t, c.query), readKeys(t, s, c.keys)
		if got, ok := impl.ChaseKeys(s, q, keys); !ok || queryText(got) != c.want {
			t.Errorf("%s: ChaseKeys(%s, %s) = %v, %v, want %s", c.note, c.query, c.keys, got, ok, c.want)
		}
		checkChase(t, s, q, keys)
	}
}

// Two terms have to be equal, for all pairs of terms: the constant stays, or the
// smaller variable, and two constants cannot be equal.
func TestChaseAllTerms(t *testing.T) {
	s := querySchema()
	keys := []impl.Key{{Left: []int{0}}}
	for _, x := range allTerms() {
		for _, y := range allTerms() {
			q := impl.Query{Head: []int{x, y}, Body: []impl.Atom{{Args: []int{-1, x}}, {Args: []int{-1, y}}}}
			if x < 0 && y < 0 && x != y {
				checkNoChase(t, s, q, keys)
				continue
			}
			left := min(x, y)
			want := impl.Query{Head: []int{left, left}, Body: []impl.Atom{{Args: []int{-1, left}}}}
			if got, ok := impl.ChaseKeys(s, q, keys); !ok || !sameQuery(got, want) {
				t.Fatalf("ChaseKeys(%s) = %v, %v", queryText(q), got, ok)
			}
		}
	}
}

// keptFacts removes facts until the keys hold.
func keptFacts(db []impl.Fact, keys []impl.Key) []impl.Fact {
	db = slices.Clone(db)
	for {
		v := triedViolation(db, keys)
		if v[0] < 0 {
			return db
		}
		db = slices.Delete(db, v[2], v[2]+1)
	}
}

// Two constants have to be equal: the chase fails, and the query has no answers
// where the keys hold, so that it is contained in every query whose head has
// the same length.
func TestTwoConstantsThatHaveToBeEqual(t *testing.T) {
	s := querySchema()
	r := rand.New(rand.NewSource(13))
	others := []string{"yes :- r1(5)", "X0 :- r1(X0)", "5 :- r1(X0)", "X0,X0 :- r1(X0)", "X0,X1 :- r0(X0,X1)", "X0,X1,X2 :- r2(X0,X1,X2)", "1,2,3 :- r0(4,5)"}
	for _, c := range []struct {
		keys  string
		query string
		free  string // keys with which nothing fails
	}{
		{"key r0 0", "yes :- r0(X0,1); r0(X0,2)", "key r0 1"},
		{"key r0 1", "yes :- r0(1,X0); r0(2,X0)", "key r0 0"},
		{"key r0 0", "X0 :- r0(X0,0); r0(X0,79)", "key r0 1"},
		{"key r0 0", "yes :- r0(3,1); r0(3,2)", "key r0 0 1"},
		{"key r0 0", "2 :- r0(1,1); r0(1,2)", "key r0 0 1"},
		{"key r0 0", "X1 :- r0(X0,1); r0(X0,X1); r0(X0,2)", ""},
		{"key r0 0", "X1 :- r0(X0,X1); r0(X0,1); r0(X0,2)", "key r0 1"},
		{"key r0 0", "X1 :- r0(X0,X1); r1(X1); r0(X0,1); r0(X0,2)", "key r1 0"},
		{"key r0 1, key r0 0", "X0,X2 :- r0(X0,1); r0(X2,X1); r0(X0,X1); r0(X2,2)", "key r0 0 1"},
		// Only what was made equal before demands it.
		{"key r0 0", "X0 :- r0(X0,X1); r0(X0,X2); r0(X1,1); r0(X2,2)", "key r0 1"},
		{"key r0 0", "X1 :- r0(X1,1); r0(5,X1); r0(5,X2); r0(X2,2)", "key r0 1"},
		{"key r0 0, key r0 1", "X0 :- r0(X0,X1); r0(X0,X2); r0(1,X1); r0(2,X2)", "key r0 0 1, key r2 0"},
		{"key r1 0, key r2 0 1, key r0 0", "X0 :- r2(X0,X1,1); r0(X0,X1); r0(X0,X2); r2(X0,X2,2)", "key r0 0"},
		// At the first place at which the atoms differ, or at a later one.
		{"key r2 0", "X0,X1,X2 :- r2(X0,X1,1); r2(X0,X2,2)", "key r2 1"},
		{"key r2 0", "X0,X1,X2 :- r2(X0,1,X1); r2(X0,2,X2)", "key r2 1"},
		{"key r2 2", "X0,X1,X2 :- r2(X1,1,X0); r2(X2,2,X0)", "key r2 1"},
		{"key r2 0 2", "X0,X1 :- r2(X0,1,X1); r2(X0,2,X1)", "key r2 0 1"},
		{"key r2 0", "X0 :- r2(X0,X1,X1); r2(X0,1,2)", "key r2 1"},
		{"key r2 0", "X0 :- r2(X0,X1,1); r2(X0,2,X1)", "key r2 1"},
	} {
		q, keys := readEvalQuery(t, c.query), readKeys(t, s, c.keys)
		checkNoChase(t, s, q, keys)
		checkChase(t, s, q, keys)
		if _, ok := checkChase(t, s, q, readKeys(t, s, c.free)); !ok {
			t.Errorf("ChaseKeys(%s, %s) = false", c.query, c.free)
		}
		for _, text := range append(others, c.query) {
			b := readEvalQuery(t, text)
			fits := len(b.Head) == len(q.Head)
			if ab, ba := checkUnder(t, s, q, b, keys); ab != fits || ba != (text == c.query) {
				t.Errorf("%s and %s under %s: %v and back %v", c.query, text, c.keys, ab, ba)
			}
		}
		for range 50 {
			if db := keptFacts(chosenFacts(r), keys); len(triedBindings(q.Body, db)) > 0 {
				t.Errorf("%s has answers on %v, on which %s holds", c.query, db, c.keys)
			}
		}
	}
	// Queries without answers are equivalent.
	a, b := readEvalQuery(t, "X0 :- r0(X0,1); r0(X0,2)"), readEvalQuery(t, "7 :- r0(3,4); r0(3,5); r1(X1)")
	if ab, ba := checkUnder(t, s, a, b, readKeys(t, s, "key r0 0")); !ab || !ba {
		t.Errorf("queries without answers: %v and back %v", ab, ba)
	}
}

// What is wanted is written out here: whether the first query is contained in
// the second one, and the second one in the first one.
func TestContainedUnder(t *testing.T) {
	s := querySchema()
	for _, c := range []struct {
		keys string
		a    string
		b    string
		ab   bool
		ba   bool
		note string
	}{
		{"key r0 0", "X1,X2 :- r0(X0,X1); r0(X0,X2)", "X1,X1 :- r0(X0,X1)", true, true, "a key"},
		{"", "X1,X2 :- r0(X0,X1); r0(X0,X2)", "X1,X1 :- r0(X0,X1)", false, true, "no key"},
		{"key r0 1", "X1,X2 :- r0(X0,X1); r0(X0,X2)", "X1,X1 :- r0(X0,X1)", false, true, "the other place"},
		{"key r0 0 1", "X1,X2 :- r0(X0,X1); r0(X0,X2)", "X1,X1 :- r0(X0,X1)", false, true, "a key of all places"},
		{"key r2 0", "X1,X2 :- r0(X0,X1); r0(X0,X2)", "X1,X1 :- r0(X0,X1)", false, true, "a key of another relation"},
		{"key r0 1, key r0 0", "X1,X2 :- r0(X0,X1); r0(X0,X2)", "X1,X1 :- r0(X0,X1)", true, true, "the last key"},
		{"key r0 0", "X0 :- r0(X0,X1); r0(X0,X2); r1(X1)", "X0 :- r0(X0,X1); r1(X1)", true, true, "an atom that says nothing new"},
		{"key r0 0", "X0 :- r0(X0,X1); r0(X0,X2); r0(X1,X3); r1(X2)", "X0 :- r0(X0,X1); r0(X1,X2); r1(X1)", true, true, "both atoms are of the same fact"},
		{"", "X0 :- r0(X0,X1); r0(X0,X2); r0(X1,X3); r1(X2)", "X0 :- r0(X0,X1); r0(X1,X2); r1(X1)", false, true, "of two facts"},
		{"key r0 0", "X0 :- r0(X0,X1); r0(X0,5)", "X0 :- r0(X0,5)", true, true, "a constant"},
		{"key r0 0", "X1 :- r0(X0,X1); r0(X0,5)", "5 :- r0(X0,5)", true, true, "a constant in the head"},
		{"", "X1 :- r0(X0,X1); r0(X0,5)", "5 :- r0(X0,5)", false, true, "a constant without a key"},
		{"key r0 0", "X0 :- r0(X0,X1)", "X0 :- r0(X0,X1); r0(X0,X2); r1(X2)", false, true, "the longer query needs no chase"},
		{"key r0 0, key r0 1", "yes :- r0(X0,X1); r0(X1,X2); r0(X2,X1)", "yes :- r0(X0,X1); r0(X1,X0)", true, true, "a path into a circle"},
		{"key r0 1", "yes :- r0(X0,X1); r0(X1,X2); r0(X2,X1)", "yes :- r0(X0,X1); r0(X1,X0)", true, true, "the one key that matters"},
		{"key r0 1", "X0,X2 :- r0(X0,X1); r0(X1,X2); r0(X2,X1)", "X0,X0 :- r0(X0,X1); r0(X1,X0)", true, true, "a path into a circle with a head"},
		{"key r0 0", "X0,X2 :- r0(X0,X1); r0(X1,X2); r0(X2,X1)", "X0,X0 :- r0(X0,X1); r0(X1,X0)", false, true, "the other place"},
		{"key r2 0 1", "X0,X4 :- r2(X0,X1,X2); r2(X0,X1,X4); r1(X2)", "X0,X2 :- r2(X0,X1,X2); r1(X2)", true, true, "two places"},
		{"key r2 0 2", "X0,X4 :- r2(X0,X1,X2); r2(X0,X1,X4); r1(X2)", "X0,X2 :- r2(X0,X1,X2); r1(X2)", false, true, "two other places"},
		{"key r0 0", "X0 :- r0(X0,X1); r1(X1)", "X0 :- r0(X0,X1); r1(X0)", false, false, "neither"},
		{"key r0 0", "X0 :- r0(X0,X1)", "X0,X0 :- r0(X0,X1)", false, false, "heads of different lengths"},
		{"key r0 0", "X0 :- r0(X0,1); r0(X0,2)", "yes :- r1(X0)", false, false, "no answers, and a shorter head"},
		{"key r0 0", "X0 :- r0(X0,1); r0(X0,2)", "X0,X0 :- r1(X0)", false, false, "no answers, and a longer head"},
		{"key r0 0", "X0 :- r0(X0,1); r0(X0,2)", "X0 :- r1(X0)", true, false, "no answers"},
		{"key r0 1", "X0 :- r0(X0,1); r0(X0,2)", "X0 :- r1(X0)", false, false, "answers with the other place"},
	} {
		a, b := readEvalQuery(t, c.a), readEvalQuery(t, c.b)
		if ab, ba := checkUnder(t, s, a, b, readKeys(t, s, c.keys)); ab != c.ab || ba != c.ba {
			t.Errorf("%s: %s and %s under %s: %v and back %v", c.note, c.a, c.b, c.keys, ab, ba)
		}
	}
}

// Heads of all lengths, with and without a violation, and with a chase that
// fails.
func TestContainedUnderHeads(t *testing.T) {
	s := querySchema()
	keys := []impl.Key{{Left: []int{0}}}
	bodies := [][]impl.Atom{atomsOf(2), {{Args: []int{0, 1}}, {Args: []int{0, -3}}}, {{Args: []int{0, -1}}, {Args: []int{0, -2}}}}
	for n, body := range bodies {
		for first := range 5 {
			for second := range 5 {
				a := impl.Query{Head: slices.Repeat([]int{-1}, first), Body: body}
				b := impl.Query{Head: slices.Repeat([]int{-1}, second), Body: atomsOf(1)}
				if max(first, second) > 3 || first != second {
					checkNotUnder(t, s, a, b, keys)
				} else if ab, ba := checkUnder(t, s, a, b, keys); ab != (n != 1) || ba != (n == 0) {
					t.Errorf("body %d with heads of %d terms: %v and back %v", n, first, ab, ba)
				}
			}
		}
	}
}

// Every number of keys, of atoms and of elements of the head around the limits.
func TestChaseLimits(t *testing.T) {
	s := querySchema()
	for count := range 8 {
		for atoms := range 7 {
			for head := range 5 {
				keys := slices.Repeat([]impl.Key{{Rel: 2, Left: []int{0}}}, count)
				q := impl.Query{Head: slices.Repeat([]int{2}, head)}
				for n := range atoms {
					q.Body = append(q.Body, impl.Atom{Rel: 2, Args: []int{19, 2 + n, 18 - n}})
				}
				if count > 4 || atoms < 1 || atoms > 4 || head > 3 {
					checkNoChase(t, s, q, keys)
					checkNotUnder(t, s, q, q, keys)
					continue
				}
				want := q
				if count > 0 {
					want.Body = []impl.Atom{{Rel: 2, Args: []int{19, 2, 19 - atoms}}}
				}
				if got, _ := checkChase(t, s, q, keys); !sameQuery(got, want) {
					t.Errorf("ChaseKeys(%s) = %s", queryText(q), queryText(got))
				}
				checkUnder(t, s, q, want, keys)
			}
		}
	}
	// Only when the first two atoms are equal, the other two agree at the place
	// of the key.
	q := readEvalQuery(t, "X19,X18,X17 :- r2(X8,X17,X9); r2(X8,X16,X10); r2(X9,X15,X18); r2(X10,X14,X19)")
	want := "X18,X18,X16 :- r2(X8,X16,X9); r2(X9,X14,X18)"
	if got, _ := checkChase(t, s, q, readKeys(t, s, "key r2 0")); queryText(got) != want {
		t.Errorf("ChaseKeys(%s) = %s", queryText(q), queryText(got))
	}
	large, _ := largestQuery()
	for _, k := range keysOf(s) {
		checkUnder(t, s, large, large, []impl.Key{k, k, k, k})
	}
}

// Each argument that is not valid, alone and beside others that are.
func TestChaseInvalid(t *testing.T) {
	s := querySchema()
	all := keysOf(s)
	for _, q := range validQueries() {
		for _, other := range validQueries() {
			checkUnder(t, s, q, other, all[:4])
		}
		for _, bad := range invalidSchemas() {
			checkNoChase(t, bad, q, nil)
			checkNoChase(t, bad, q, all[:1])
			checkNotUnder(t, bad, q, q, nil)
			checkNotUnder(t, bad, q, q, all[:1])
		}
		for _, k := range invalidKeys() {
			checkNoChase(t, s, q, []impl.Key{k})
			checkNotUnder(t, s, q, q, []impl.Key{k})
		}
		checkNoChase(t, s, q, all[:5])
		checkNotUnder(t, s, q, q, all[:5])
		checkNoChase(t, s, q, make([]impl.Key, 1000))
		checkNotUnder(t, s, q, q, make([]impl.Key, 1000))
	}
	for _, bad := range invalidQueries() {
		checkNoChase(t, s, bad, nil)
		checkNoChase(t, s, bad, all[:4])
		checkNotUnder(t, s, bad, bad, nil)
		for _, q := range validQueries() {
			checkNotUnder(t, s, q, bad, nil)
			checkNotUnder(t, s, q, bad, all[:4])
		}
	}
	// Also where two constants would have to be equal.
	none := readEvalQuery(t, "X0 :- r0(X0,1); r0(X0,2)")
	for n := range 5 {
		for i := range n {
			for _, k := range invalidKeys() {
				keys := slices.Repeat(all[:1], n)
				keys[i] = k
				checkNoChase(t, s, none, keys)
				checkNotUnder(t, s, none, none, keys)
			}
		}
	}
	for _, bad := range invalidQueries() {
		bad.Head = []int{-1}
		if !impl.IsQuery(s, bad) {
			checkNotUnder(t, s, none, bad, all[:1])
		}
	}
	// Valid for one schema only.
	short, long := impl.Query{Body: []impl.Atom{{Args: []int{0}}}}, impl.Query{Body: []impl.Atom{{Args: []int{0, 1}}, {Args: []int{0, 2}}}}
	for arity := 1; arity <= 3; arity++ {
		checkNotUnder(t, impl.Schema{Arity: []int{arity}}, short, long, nil)
	}
	checkNoChase(t, impl.Schema{Arity: []int{2}}, short, nil)
	checkNoChase(t, impl.Schema{Arity: []int{1}}, short, []impl.Key{{Left: []int{1}}})
	checkNoChase(t, impl.Schema{Arity: []int{1}}, long, []impl.Key{{Left: []int{0}}})
	if got, ok := impl.ChaseKeys(impl.Schema{Arity: []int{2}}, long, []impl.Key{{Left: []int{0}}}); !ok || queryText(got) != "yes :- r0(X0,X1)" {
		t.Errorf("ChaseKeys for one relation = %v, %v", got, ok)
	}
}

// inFirstNames returns the queries whose variables have the names X0, X1 and so
// on in the order in which they occur.
func inFirstNames(queries []impl.Query) []impl.Query {
	return slices.DeleteFunc(queries, func(q impl.Query) bool { return !sameQuery(q, namedFirst(q)) })
}

// A tally of pairs of queries by what is true of them.
type pairTally struct {
	contained int
	byKeys    int // contained only because the keys hold
	missed    int
}

// checkByAnswers checks containment of all pairs of queries, of which it leaves
// out some, by their answers on those databases on which the keys hold.
func checkByAnswers(t *testing.T, queries []impl.Query, databases [][]impl.Fact, keys []impl.Key, step int) pairTally {
	t.Helper()
	s := impl.Schema{Arity: []int{2, 1}}
	var held [][]impl.Fact
	for _, db := range databases {
		if triedViolation(db, keys)[0] < 0 {
			held = append(held, db)
		}
	}
	var sets [][]int
	for _, q := range queries {
		checkChase(t, s, q, keys)
		var set []int
		for _, db := range held {
			set = append(set, triedAnswerSet(q, db))
		}
		sets = append(sets, set)
	}
	inside := func(i int, j int) bool {
		for n := range held {
			if sets[i][n]&^sets[j][n] != 0 {
				return false
			}
		}
		return len(queries[i].Head) == len(queries[j].Head)
	}
	var counts pairTally
	for i, a := range queries {
		for j := i % step; j < len(queries); j += step {
			b, ab, ba := queries[j], inside(i, j), inside(j, i)
			if impl.ContainedUnder(s, a, b, keys) != ab || impl.EquivalentUnder(s, a, b, keys) != (ab && ba) {
				t.Fatalf("%s and %s under %v: ContainedUnder = %v, EquivalentUnder = %v", queryText(a), queryText(b), keys, !ab, impl.EquivalentUnder(s, a, b, keys))
			}
			switch {
			case !ab:
				counts.missed++
			case impl.IsContained(s, a, b):
				counts.contained++
			default:
				counts.contained++
				counts.byKeys++
			}
		}
	}
	return counts
}

// Promise 6 for keys: a query is contained in another one under keys exactly if
// it has no other answers on all small databases in which they hold. If it has
// other ones, it has them on its finished chase. Without constants, this has up
// to three facts with three values; with a variable and two constants, which
// have the values 0 and 1, or with two variables and one constant, and up to
// two atoms, it has up to two facts with three values.
func TestContainedUnderByAnswers(t *testing.T) {
	s := impl.Schema{Arity: []int{2, 1}}
	triples := inFirstNames(tripleQueries())
	pairs := slices.Concat(inFirstNames(shortQueries([]int{0, -1, -2}, 2, 1)), inFirstNames(shortQueries([]int{0, 1, -1}, 2, 1)))
	for _, text := range []string{"key r0 0", "key r0 1", "key r0 0, key r0 1", "key r0 0 1, key r1 0"} {
		keys := readKeys(t, s, text)
		counts := checkByAnswers(t, triples, tripleDatabases(), keys, 5)
		more := checkByAnswers(t, pairs, pairsOfFacts(), keys, 5)
		if counts.contained < 3000 || more.contained < 5000 || counts.missed < 10000 || more.missed < 100000 {
			t.Errorf("%s: only %v and %v", text, counts, more)
		}
		if whole := text == "key r0 0 1, key r1 0"; whole != (counts.byKeys == 0) || whole != (more.byKeys == 0) || !whole && min(counts.byKeys, more.byKeys) < 300 {
			t.Errorf("%s: %v and %v", text, counts, more)
		}
	}
}

// chosenKeys returns up to four keys, which may be equal.
func chosenKeys(r *rand.Rand) []impl.Key {
	all := keysOf(querySchema())
	var keys []impl.Key
	for range chosen(r, 0, 1, 2, 2, 3, 3, 4, 4, 4) {
		keys = append(keys, all[chosen(r, 0, 0, 1, 1, 4, 5, 6, 7, 8, 9, r.Intn(len(all)))])
	}
	return keys
}

// chosenViolations returns a query with more violations than chosenQuery: some
// atoms have the arguments of an earlier one but for one place.
func chosenViolations(r *rand.Rand) impl.Query {
	q := chosenQuery(r)
	for len(q.Body) < 4 && r.Intn(6) > 0 {
		a := q.Body[r.Intn(len(q.Body))]
		if len(a.Args) == 1 {
			a = impl.Atom{Rel: 2, Args: []int{a.Args[0], chosen(r, 1, 7, -1), chosen(r, 2, 19, -3)}}
		}
		other := impl.Atom{Rel: a.Rel, Args: slices.Clone(a.Args)}
		for range 1 + r.Intn(2) {
			other.Args[r.Intn(len(other.Args))] = chosen(r, 2, 4, 6, 7, 19, 0, -1, -3, -79)
		}
		q.Body = append(q.Body, other)
	}
	r.Shuffle(len(q.Body), func(i, j int) { q.Body[i], q.Body[j] = q.Body[j], q.Body[i] })
	return q
}

// checkAnswersInside checks that a contained query has no other answers on a
// database on which the keys hold, and returns how many it has.
func checkAnswersInside(t *testing.T, s impl.Schema, a impl.Query, b impl.Query, keys []impl.Key, db []impl.Fact) int {
	t.Helper()
	answers := impl.Answers(s, a, db)
	for _, tuple := range answers {
		if !impl.IsAnswer(s, b, db, tuple) {
			t.Fatalf("%s is contained in %s under %v, but %v is no answer of the second one on %v", queryText(a), queryText(b), keys, tuple, db)
		}
	}
	return len(answers)
}

// Promise 6 for keys: queries of up to four atoms under up to four keys, and on
// databases of up to 24 facts on which the keys hold.
func TestContainedUnderOfChosenQueries(t *testing.T) {
	s := querySchema()
	r := rand.New(rand.NewSource(1313))
	failed, byKeys, missed, answers := 0, 0, 0, 0
	for range 8000 {
		a, keys := chosenViolations(r), chosenKeys(r)
		chased, ok := checkChase(t, s, a, keys)
		b := chosenImage(r, a)
		if ok {
			// Sometimes what the keys make of the query, with some atoms less.
			b = chosenEquivalent(r, chased)
			for range r.Intn(2) {
				b, _ = impl.WithoutAtom(s, b, r.Intn(len(b.Body)))
			}
		} else {
			failed++
		}
		if !impl.IsQuery(s, b) {
			checkNotUnder(t, s, a, b, keys)
			continue
		}
		ab, ba := checkUnder(t, s, a, b, keys)
		if ab && ok && !impl.IsContained(s, a, b) {
			byKeys++
		}
		if !ba {
			missed++
		}
		for range 2 {
			db := keptFacts(chosenFacts(r), keys)
			if ab {
				answers += checkAnswersInside(t, s, a, b, keys, db)
			}
			if ba {
				answers += checkAnswersInside(t, s, b, a, keys, db)
			}
		}
	}
	if failed < 300 || byKeys < 500 || missed < 1000 || answers < 5000 {
		t.Errorf("only %d failed, %d contained by the keys, %d not contained and %d answers", failed, byKeys, missed, answers)
	}
}

// Neither the order of the keys nor a key twice changes the result, and the
// order of the atoms changes only the order of those that are left.
func TestChaseOrder(t *testing.T) {
	s := querySchema()
	r := rand.New(rand.NewSource(131))
	changed, failed := 0, 0
	for range 3000 {
		q, keys := chosenViolations(r), chosenKeys(r)
		want, wantOk := impl.ChaseKeys(s, q, keys)
		for range 3 {
			mixed := cloneKeys(keys)
			if len(mixed) > 0 && len(mixed) < 4 {
				mixed = append(mixed, mixed[0])
			}
			r.Shuffle(len(mixed), func(i, j int) { mixed[i], mixed[j] = mixed[j], mixed[i] })
			if got, ok := impl.ChaseKeys(s, q, mixed); ok != wantOk || !sameQuery(got, want) {
				t.Fatalf("ChaseKeys(%s, %v) = %v, %v, with other keys %v", queryText(q), mixed, got, ok, want)
			}
			other := cloneQuery(q)
			r.Shuffle(len(other.Body), func(i, j int) { other.Body[i], other.Body[j] = other.Body[j], other.Body[i] })
			got, ok := impl.ChaseKeys(s, other, keys)
			if a, b := strings.Split(queryText(got), " :- "), strings.Split(queryText(want), " :- "); ok != wantOk || a[0] != b[0] || !slices.Equal(sortedParts(a[1]), sortedParts(b[1])) {
				t.Fatalf("ChaseKeys(%s, %v) = %v, %v, in another order %v", queryText(other), keys, got, ok, want)
			}
		}
		if !wantOk {
			failed++
		} else if !sameQuery(want, withoutRepeats(q)) {
			changed++
		}
	}
	if changed < 500 || failed < 100 {
		t.Errorf("only %d changed and %d failed", changed, failed)
	}
}

func sortedParts(text string) []string {
	parts := strings.Split(text, "; ")
	slices.Sort(parts)
	return parts
}

// replacedIn writes down what ReplaceTerm should do to a list.
func replacedIn(terms []int, from int, to int) []int {
	var all []int
	for _, n := range terms {
		if n == from {
			all = append(all, to)
		} else {
			all = append(all, n)
		}
	}
	return all
}

func checkReplace(t *testing.T, q impl.Query, from int, to int) {
	t.Helper()
	want := impl.Query{Head: replacedIn(q.Head, from, to)}
	for _, a := range q.Body {
		want.Body = append(want.Body, impl.Atom{Rel: a.Rel, Args: replacedIn(a.Args, from, to)})
	}
	if got := impl.ReplaceTerm(q, from, to); !sameQuery(got, want) {
		t.Fatalf("ReplaceTerm(%v, %d, %d) = %v, want %v", q, from, to, got, want)
	}
}

// The wanted results are written out here.
func TestReplaceTerm(t *testing.T) {
	for _, c := range []struct {
		query string
		from  int
		to    int
		want  string
	}{
		{"X1,X2 :- r0(X0,X1); r0(X0,X2)", 0, -1, "X1,X2 :- r0(0,X1); r0(0,X2)"},
		{"X1,X2 :- r0(X0,X1); r0(X0,X2)", 2, 1, "X1,X1 :- r0(X0,X1); r0(X0,X1)"},
		{"X1,X2 :- r0(X0,X1); r0(X0,X2)", 1, 2, "X2,X2 :- r0(X0,X2); r0(X0,X2)"},
		{"X1,X2 :- r0(X0,X1); r0(X0,X2)", 3, 1, "X1,X2 :- r0(X0,X1); r0(X0,X2)"},
		{"X1,X2 :- r0(X0,X1); r0(X0,X2)", 1, 1, "X1,X2 :- r0(X0,X1); r0(X0,X2)"},
		{"X1,X2 :- r0(X0,X1); r0(X0,X2)", 1, 19, "X19,X2 :- r0(X0,X19); r0(X0,X2)"},
		// A constant is a term as well.
		{"5,X0,5 :- r2(5,X0,5); r1(4)", -6, 0, "X0,X0,X0 :- r2(X0,X0,X0); r1(4)"},
		{"5,X0,6 :- r2(5,X0,6); r1(4)", -6, -7, "6,X0,6 :- r2(6,X0,6); r1(4)"},
		{"0,79 :- r0(0,79)", -80, -1, "0,0 :- r0(0,0)"},
		{"0,79 :- r0(0,79)", -1, -80, "79,79 :- r0(79,79)"},
		// The numbers of relations are no terms, and atoms that become equal stay.
		{"yes :- r1(X1); r1(X0)", 1, 0, "yes :- r1(X0); r1(X0)"},
		{"yes :- r2(X2,X2,X2); r1(X2)", 2, 7, "yes :- r2(X7,X7,X7); r1(X7)"},
	} {
		q := readEvalQuery(t, c.query)
		if got := impl.ReplaceTerm(q, c.from, c.to); queryText(got) != c.want {
			t.Errorf("ReplaceTerm(%s, %d, %d) = %s, want %s", c.query, c.from, c.to, queryText(got), c.want)
		}
		checkReplace(t, q, c.from, c.to)
	}
}

// Any query and any numbers, which need not be terms.
func TestReplaceAnyTerm(t *testing.T) {
	numbers := append(noTerms(), 0, 1, 19, -1, -80)
	queries := append(validQueries(), invalidQueries()...)
	queries = append(queries,
		impl.Query{Head: numbers, Body: []impl.Atom{{Rel: math.MinInt, Args: numbers}, {}, {}, {}, {}, {Rel: 1, Args: slices.Repeat(numbers, 3)}}},
		impl.Query{Head: slices.Repeat([]int{20}, 1000), Body: slices.Repeat([]impl.Atom{{Rel: 20, Args: []int{20, -81}}}, 1000)},
	)
	for _, q := range queries {
		for _, from := range numbers {
			for _, to := range numbers {
				checkReplace(t, q, from, to)
			}
		}
	}
	q := impl.Query{}
	for _, n := range allTerms() {
		q.Head = append(q.Head, n)
		q.Body = append(q.Body, impl.Atom{Rel: 1, Args: []int{n}})
	}
	for _, from := range allTerms() {
		for _, to := range allTerms() {
			checkReplace(t, q, from, to)
		}
	}
}

// The arguments stay as they are, with the memory behind them.
func TestChaseLeavesArgumentsAlone(t *testing.T) {
	s := impl.Schema{Arity: []int{2, 1, 9}[:2]}
	terms := []int{1, 0, 1, 2, 1, -1, -2, 9}
	atoms := []impl.Atom{{Args: terms[:2]}, {Args: terms[2:4]}, {Rel: 1, Args: terms[3:4]}, {Args: terms[4:6]}, {Rel: 9}}
	places := []int{0, 9, 9}
	keys := []impl.Key{{Left: places[:1]}, {Rel: 1, Left: places[:1]}, {Rel: 9}}
	queries := []impl.Query{
		{Head: terms[3:4], Body: atoms[:3]},
		{Head: terms[:3], Body: atoms[:4]},
		{Head: terms[6:7], Body: []impl.Atom{atoms[3], {Args: []int{terms[4], terms[6]}}}},
		{Head: terms[7:], Body: atoms[:4]},
		{Head: terms[:5], Body: atoms},
	}
	for range 3 {
		for n := range len(keys) + 1 {
			for _, a := range queries {
				impl.ChaseKeys(s, a, keys[:n])
				for from := range 3 {
					impl.ReplaceTerm(a, from, -1)
				}
				for _, b := range queries {
					impl.ContainedUnder(s, a, b, keys[:n])
					impl.EquivalentUnder(s, a, b, keys[:n])
				}
			}
		}
		if !slices.Equal(terms, []int{1, 0, 1, 2, 1, -1, -2, 9}) || !slices.Equal(places, []int{0, 9, 9}) || !slices.Equal(s.Arity[:3], []int{2, 1, 9}) {
			t.Fatalf("the arguments are now %v, %v, %v", terms, places, s)
		}
		if queryText(impl.Query{Body: atoms}) != "yes :- r0(X1,X0); r0(X1,X2); r1(X2); r0(X1,0); r9()" || len(keys[0].Left) != 1 || keys[2].Rel != 9 {
			t.Fatalf("the arguments are now %v, %v", atoms, keys)
		}
	}
}

// A result is new memory, and no two of its slices share any, whether or not
// anything was replaced.
func TestChaseResultsShareNoMemory(t *testing.T) {
	s := querySchema()
	shared := []int{0, 0, 0, 1, 1, 2, 0}
	two := []impl.Atom{{Args: shared[:2]}, {Args: shared[2:4]}, {Args: shared[4:6]}, {Rel: 1, Args: shared[3:4]}}
	key := impl.Key{Left: []int{0}}
	for _, q := range []impl.Query{
		{Head: shared[:1], Body: two},
		{Head: shared[:3], Body: two[:2]},
		{Head: shared[3:6], Body: two[2:]},
		{Head: shared[:2], Body: []impl.Atom{two[0], two[0], two[0]}},
		{Head: shared[:0], Body: two[:1]},
	} {
		want := cloneQuery(q)
		for _, keys := range [][]impl.Key{nil, {key}, {key, key, key, key}} {
			result, ok := impl.ChaseKeys(s, q, keys)
			if !ok {
				t.Fatalf("ChaseKeys(%s, %v) = false", queryText(q), keys)
			}
			checkOwnQuery(t, result)
		}
		for from := -1; from < 3; from++ {
			checkOwnQuery(t, impl.ReplaceTerm(q, from, 1))
		}
		if !sameQuery(q, want) || key.Left[0] != 0 {
			t.Fatalf("a change of the result changed the query to %v", q)
		}
	}
	checkOwnQuery(t, impl.ReplaceTerm(impl.Query{Head: shared, Body: slices.Concat(two, two, two)}, 0, 5))
}

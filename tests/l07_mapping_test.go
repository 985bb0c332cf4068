package tests

import (
	"math"
	"math/rand"
	"slices"
	"strconv"
	"strings"
	"testing"

	"loop.example/g01985/impl"
)

// noTerm stands in a mapping for the variables that it does not map.
const noTerm = -1000

// noMapping maps no variable.
func noMapping() []int {
	return slices.Repeat([]int{noTerm}, 20)
}

// mappingOf returns the mapping of these variables, each followed by its term.
func mappingOf(pairs ...int) []int {
	m := noMapping()
	for i := 0; i < len(pairs); i += 2 {
		m[pairs[i]] = pairs[i+1]
	}
	return m
}

// indexes returns the numbers from 0 to n-1.
func indexes(n int) []int {
	all := make([]int, n)
	for i := range all {
		all[i] = i
	}
	return all
}

// imageOf returns what a term becomes.
func imageOf(m []int, t int) int {
	if t < 0 || t >= len(m) || m[t] == noTerm {
		return t
	}
	return m[t]
}

func imagesOf(m []int, terms []int) []int {
	images := slices.Clone(terms)
	for i, t := range terms {
		images[i] = imageOf(m, t)
	}
	return images
}

func imageOfQuery(m []int, q impl.Query) impl.Query {
	image := impl.Query{Head: imagesOf(m, q.Head)}
	for _, a := range q.Body {
		image.Body = append(image.Body, impl.Atom{Rel: a.Rel, Args: imagesOf(m, a.Args)})
	}
	return image
}

// holdsMapping reports whether a mapping does what it should, for two valid
// queries.
func holdsMapping(from impl.Query, to impl.Query, m []int) bool {
	image := imageOfQuery(m, from)
	missing := func(a impl.Atom) bool {
		return !slices.ContainsFunc(to.Body, func(b impl.Atom) bool { return sameAtom(a, b) })
	}
	return len(m) == 20 && slices.Equal(image.Head, to.Head) && !slices.ContainsFunc(image.Body, missing)
}

// pair maps the terms to their images, position by position, as far as nothing
// contradicts it.
func pair(m []int, terms []int, images []int) bool {
	if len(terms) != len(images) {
		return false
	}
	for i, t := range terms {
		if t >= 0 && m[t] == noTerm {
			m[t] = images[i]
		}
		if imageOf(m, t) != images[i] {
			return false
		}
	}
	return true
}

// triedMapping goes through all choices of an atom for each atom, in the order
// of the specification, and begins anew for each of them.
func triedMapping(from impl.Query, to impl.Query) ([]int, bool) {
	for _, choice := range shortLists(indexes(len(to.Body)), len(from.Body)) {
		if len(choice) < len(from.Body) {
			continue
		}
		m := noMapping()
		ok := pair(m, from.Head, to.Head)
		for i, a := range from.Body {
			b := to.Body[choice[i]]
			ok = ok && a.Rel == b.Rel && pair(m, a.Args, b.Args)
		}
		if ok {
			return m, true
		}
	}
	return nil, false
}

// frozen returns the atoms of a query as facts and its head as values, with a
// value of its own for each variable.
func frozen(q impl.Query) ([]impl.Fact, []int) {
	values := make([]int, 20)
	for v := range values {
		values[v] = 80 + v
	}
	var db []impl.Fact
	for _, a := range q.Body {
		db = withFact(db, impl.Fact{Rel: a.Rel, Args: valuesOf(a.Args, values)})
	}
	return db, valuesOf(q.Head, values)
}

// checkMapping compares FindMapping with the first mapping that was tried, and
// with promise 3: without a mapping, the frozen query is a counterexample. It
// reports whether there is a mapping.
func checkMapping(t *testing.T, s impl.Schema, from impl.Query, to impl.Query) bool {
	t.Helper()
	want, wantOk := triedMapping(from, to)
	got, ok := impl.FindMapping(s, from, to)
	if ok != wantOk || !slices.Equal(got, want) {
		t.Fatalf("FindMapping from %s to %s = %v, %v, want %v, %v", queryText(from), queryText(to), got, ok, want, wantOk)
	}
	if ok && !impl.IsMapping(s, from, to, got) {
		t.Fatalf("IsMapping from %s to %s, %v = false", queryText(from), queryText(to), got)
	}
	if len(from.Head) == len(to.Head) {
		db, head := frozen(to)
		if !impl.IsAnswer(s, to, db, head) || impl.IsAnswer(s, from, db, head) != ok {
			t.Fatalf("FindMapping from %s to %s = %v, but the frozen query says otherwise", queryText(from), queryText(to), ok)
		}
	}
	return ok
}

// checkNoMapping checks that nothing is a mapping between these queries.
func checkNoMapping(t *testing.T, s impl.Schema, from impl.Query, to impl.Query) {
	t.Helper()
	if got, ok := impl.FindMapping(s, from, to); ok || len(got) != 0 {
		t.Errorf("FindMapping(%v, %v, %v) = %v, %v", s, from, to, got, ok)
	}
	for _, m := range [][]int{nil, make([]int, 20), indexes(20), noMapping(), make([]int, 21)} {
		if impl.IsMapping(s, from, to, m) {
			t.Errorf("IsMapping(%v, %v, %v, %v) = true", s, from, to, m)
		}
	}
}

func TestUnmapped(t *testing.T) {
	if impl.Unmapped != -1000 {
		t.Errorf("Unmapped = %d", impl.Unmapped)
	}
}

// A mappingCase is a pair of queries with the text of the first mapping, or
// with nothing if there is none.
type mappingCase struct {
	from string
	to   string
	want string
}

func checkMappingCases(t *testing.T, cases []mappingCase) {
	t.Helper()
	for _, c := range cases {
		from, to := readEvalQuery(t, c.from), readEvalQuery(t, c.to)
		if checkMapping(t, querySchema(), from, to) != (c.want != "") {
			t.Errorf("from %s to %s: there should be %q", c.from, c.to, c.want)
		}
		m, ok := impl.FindMapping(querySchema(), from, to)
		if ok && (len(m) != 20 || impl.FormatMapping(m) != c.want) {
			t.Errorf("from %s to %s = %q, want %q", c.from, c.to, impl.FormatMapping(m), c.want)
		}
	}
}

// The wanted mappings are written out here.
func TestFindMapping(t *testing.T) {
	checkMappingCases(t, []mappingCase{
		{"X3 :- r0(X3,X1)", "X0 :- r0(X0,X1); r0(X1,X2)", "X1=X1 X3=X0"},
		{"X0 :- r0(X0,X1); r0(X1,X2)", "X3 :- r0(X3,X1)", ""},
		{"X0 :- r0(X0,X1); r0(X1,X2)", "X0 :- r0(X0,X0)", "X0=X0 X1=X0 X2=X0"},
		{"X0 :- r0(X0,X0)", "X0 :- r0(X0,X1); r0(X1,X0)", ""},
		{"yes :- r1(X19)", "yes :- r1(X19)", "X19=X19"},
		{"yes :- r1(X0); r0(X19,X0)", "yes :- r0(X5,X19); r1(X19)", "X0=X19 X19=X5"},
		{"X2,X2,X1 :- r2(X1,X2,X3)", "X9,X9,X9 :- r2(X9,X9,X8)", "X1=X9 X2=X9 X3=X8"},
		// Another relation, and one without an atom.
		{"X0 :- r1(X0)", "X0 :- r0(X0,X0)", ""},
		{"yes :- r1(X0); r2(X0,X0,X0)", "yes :- r1(X0); r0(X0,X0)", ""},
		// The names of the two queries have nothing to do with each other.
		{"X0,X1 :- r0(X0,X1)", "X1,X0 :- r0(X1,X0)", "X0=X1 X1=X0"},
		{"X0,X1 :- r0(X0,X1)", "X0,X1 :- r0(X1,X0)", ""},
		{"yes :- r0(X0,X1); r0(X1,X2)", "yes :- r0(X1,X2); r0(X2,X0)", "X0=X1 X1=X2 X2=X0"},
	})
}

// A constant has to stay, in the head and in the body. A variable may become
// one.
func TestFindMappingConstants(t *testing.T) {
	checkMappingCases(t, []mappingCase{
		{"X0 :- r0(X0,5)", "X0 :- r0(X0,5)", "X0=X0"},
		{"X0 :- r0(X0,5)", "X0 :- r0(X0,X1)", ""},
		{"X0 :- r0(X0,5)", "X0 :- r0(X0,6)", ""},
		{"X0 :- r0(X0,5)", "X0 :- r0(X0,6); r0(5,X0); r0(X0,5)", "X0=X0"},
		{"X0 :- r0(X0,X1)", "X0 :- r0(X0,5)", "X0=X0 X1=5"},
		{"X0 :- r0(X0,5); r1(X1)", "7 :- r1(0); r0(7,5)", "X0=7 X1=0"},
		{"yes :- r0(X0,X0)", "yes :- r0(5,6)", ""},
		{"yes :- r0(X0,X0)", "yes :- r0(5,6); r0(6,6)", "X0=6"},
		{"yes :- r0(X0,X1); r1(X1)", "yes :- r0(1,2); r0(3,79); r1(79)", "X0=3 X1=79"},
		{"5 :- r1(X0)", "5 :- r1(X3)", "X0=X3"},
		{"5 :- r1(X0)", "6 :- r1(X3)", ""},
		{"5 :- r1(X0)", "X3 :- r1(X3)", ""},
		{"X0 :- r1(X0)", "5 :- r1(5)", "X0=5"},
		{"X0 :- r1(X0)", "5 :- r1(6)", ""},
		{"X0 :- r1(X0)", "5 :- r1(X0)", ""},
		{"X0,X0 :- r1(X0)", "5,6 :- r1(5); r1(6)", ""},
		{"X0,5 :- r1(X0)", "5,X0 :- r1(X0); r1(5)", ""},
		// Without variables, there is nothing to map, or there is no mapping.
		{"5 :- r1(5)", "5 :- r1(5)", "none"},
		{"yes :- r1(0); r0(79,0)", "yes :- r0(79,0); r1(X0); r1(0)", "none"},
		{"yes :- r1(0); r0(79,0)", "yes :- r0(0,79); r1(0)", ""},
	})
	s := querySchema()
	for c := range 80 {
		for d := range 80 {
			from := impl.Query{Head: []int{-1 - c}, Body: []impl.Atom{{Rel: 1, Args: []int{0}}}}
			to := impl.Query{Head: []int{-1 - d}, Body: []impl.Atom{{Rel: 1, Args: []int{0}}}}
			if got := checkMapping(t, s, from, to); got != (c == d) {
				t.Errorf("from the head %d to the head %d = %v", c, d, got)
			}
			from.Head, to.Head = nil, nil
			from.Body[0].Args[0], to.Body[0].Args[0] = -1-c, -1-d
			if got := checkMapping(t, s, from, to); got != (c == d) {
				t.Errorf("from the constant %d to %d = %v", c, d, got)
			}
		}
	}
}

// The first mapping is the one with the first atoms, not with the least terms,
// and what failed leaves no traces.
func TestFindMappingOrder(t *testing.T) {
	checkMappingCases(t, []mappingCase{
		{"yes :- r1(X0)", "yes :- r1(X5); r1(X2); r1(7)", "X0=X5"},
		{"yes :- r1(X0)", "yes :- r1(7); r1(X2)", "X0=7"},
		{"yes :- r1(X0); r1(X1)", "yes :- r1(X5); r1(X2)", "X0=X5 X1=X5"},
		{"yes :- r0(X0,X1); r0(X1,X2)", "yes :- r0(X0,X1); r0(X1,X0)", "X0=X0 X1=X1 X2=X0"},
		{"yes :- r0(X0,X1); r0(X1,X2)", "yes :- r0(X1,X2); r0(X0,X1)", "X0=X0 X1=X1 X2=X2"},
		// The order of the atoms of the first query comes first.
		{"yes :- r0(X0,X1); r1(X1)", "yes :- r0(X0,X2); r0(X0,X1); r1(X1); r1(X2)", "X0=X0 X1=X2"},
		{"yes :- r1(X1); r0(X0,X1)", "yes :- r0(X0,X2); r0(X0,X1); r1(X1); r1(X2)", "X0=X0 X1=X1"},
		// The head leaves only some of the atoms.
		{"X1 :- r0(X0,X1)", "X4 :- r0(X2,X3); r0(X3,X4)", "X0=X3 X1=X4"},
		{"X1,X0 :- r0(X0,X1); r1(X2)", "X4,X3 :- r0(X2,X3); r1(X2); r0(X3,X4)", "X0=X3 X1=X4 X2=X2"},
		// The first atoms have to be given up.
		{"yes :- r0(X0,X1); r1(X1)", "yes :- r0(X0,X1); r0(X0,X2); r1(X2)", "X0=X0 X1=X2"},
		{"yes :- r0(X0,X0); r1(X1)", "yes :- r0(X1,X2); r0(X3,X3); r1(X3)", "X0=X3 X1=X3"},
		{"yes :- r0(X0,X1); r0(X1,X2); r1(X2)", "yes :- r0(X0,X1); r0(X1,X2); r0(X2,X3); r1(X3)", "X0=X1 X1=X2 X2=X3"},
		{"yes :- r2(X0,X1,X1); r0(X2,X1)", "yes :- r2(X0,X1,X2); r2(X3,X4,X4); r2(X5,X6,X6); r0(X7,X6)", "X0=X5 X1=X6 X2=X7"},
		{"yes :- r1(X0); r1(X1); r1(X2); r0(X0,X2)", "yes :- r1(X3); r1(X4); r0(X4,X3)", "X0=X4 X1=X3 X2=X3"},
		{"yes :- r1(X0); r1(X1); r1(X2); r0(X2,X0)", "yes :- r1(X3); r1(X4); r0(X4,X4)", "X0=X4 X1=X3 X2=X4"},
	})
}

func TestFindMappingHeads(t *testing.T) {
	checkMappingCases(t, []mappingCase{
		{"yes :- r0(X0,X1)", "X3 :- r0(X3,X1)", ""},
		{"X3 :- r0(X3,X1)", "yes :- r0(X0,X1)", ""},
		{"X0 :- r0(X0,X1)", "X0,X1 :- r0(X0,X1)", ""},
		{"X0,X0 :- r0(X0,X1)", "X0 :- r0(X0,X1)", ""},
		{"X0,X0,X0 :- r0(X0,X1)", "X0,X0 :- r0(X0,X1)", ""},
		{"X0,X0 :- r0(X0,X1)", "X0,X0 :- r0(X0,X1)", "X0=X0 X1=X1"},
		{"X0,X0 :- r0(X0,X1)", "X0,X1 :- r0(X0,X1)", ""},
		{"X0,X1 :- r0(X0,X1)", "X0,X0 :- r0(X0,X1)", ""},
		{"X0,X1 :- r0(X0,X1)", "X0,X0 :- r0(X0,X0)", "X0=X0 X1=X0"},
		{"yes :- r0(X0,X1)", "yes :- r0(X0,X1)", "X0=X0 X1=X1"},
	})
	for a := range 4 {
		for b := range 4 {
			from := impl.Query{Head: make([]int, a), Body: atomsOf(1)}
			to := impl.Query{Head: make([]int, b), Body: atomsOf(1)}
			if got := checkMapping(t, querySchema(), from, to); got != (a == b) {
				t.Errorf("from a head of %d to one of %d terms = %v", a, b, got)
			}
			if got := impl.IsMapping(querySchema(), from, to, mappingOf(0, 0)); got != (a == b) {
				t.Errorf("IsMapping from a head of %d to one of %d terms = %v", a, b, got)
			}
		}
	}
}

// shortQueries returns the valid queries with up to this number of smallAtoms,
// in all orders, and with a head of up to length of these terms.
func shortQueries(terms []int, atoms int, length int) []impl.Query {
	some := smallAtoms(terms)
	var all []impl.Query
	for _, list := range shortLists(indexes(len(some)), atoms)[1:] {
		var body []impl.Atom
		for _, n := range list {
			body = append(body, some[n])
		}
		for _, q := range smallQueries(body, terms) {
			if len(q.Head) <= length {
				all = append(all, q)
			}
		}
	}
	return all
}

// Between all queries of up to two atoms with two variables and a constant.
func TestMappingsOfAllSmallQueries(t *testing.T) {
	s := impl.Schema{Arity: []int{2, 1}}
	all := shortQueries([]int{0, 1, -1}, 2, 1)
	found := 0
	for _, from := range all {
		for _, to := range all {
			if len(from.Head) == len(to.Head) && checkMapping(t, s, from, to) {
				found++
			}
		}
	}
	if found < 20000 {
		t.Errorf("only %d mappings", found)
	}
}

// Atoms of two relations with the same number of arguments differ.
func TestMappingRelations(t *testing.T) {
	s := impl.Schema{Arity: []int{2, 2, 2, 2}}
	var atoms []impl.Atom
	for rel := range 4 {
		for _, args := range [][]int{{0, 1}, {1, 0}, {0, 0}, {0, -1}} {
			atoms = append(atoms, impl.Atom{Rel: rel, Args: args})
		}
	}
	var all []impl.Query
	for _, list := range shortLists(indexes(len(atoms)), 2)[1:] {
		q := impl.Query{}
		for _, n := range list {
			q.Body = append(q.Body, atoms[n])
		}
		all = append(all, q)
	}
	same := mappingOf(0, 0, 1, 1)
	for _, from := range all {
		for _, to := range all {
			checkMapping(t, s, from, to)
			want := holdsMapping(from, to, same)
			if got := impl.IsMapping(s, from, to, same); got != want {
				t.Fatalf("IsMapping from %s to %s, %v = %v", queryText(from), queryText(to), same, got)
			}
		}
	}
}

// answerSets returns, for each of the databases, a bit for each answer of up to
// two values 0 and 1.
func answerSets(s impl.Schema, q impl.Query, databases [][]impl.Fact) []int {
	sets := make([]int, len(databases))
	for i, db := range databases {
		for _, tuple := range impl.Answers(s, q, db) {
			n := 0
			for _, v := range tuple {
				n = 2*n + v
			}
			sets[i] |= 1 << n
		}
	}
	return sets
}

// Promise 3: with a mapping, the answers on all databases of six facts are
// among those of the other query; without one, the frozen query shows that they
// are not on each database.
func TestContainmentOfAllSmallQueries(t *testing.T) {
	s := impl.Schema{Arity: []int{2, 1}}
	databases := databasesOf(binaryFacts())
	all := append(shortQueries([]int{0, 1, -1}, 2, 1), shortQueries([]int{0, 1, -1}, 1, 2)...)
	var sets [][]int
	for _, q := range all {
		sets = append(sets, answerSets(s, q, databases))
	}
	for i, a := range all {
		for j, b := range all {
			if _, ok := impl.FindMapping(s, b, a); !ok {
				continue
			}
			for n := range databases {
				if sets[i][n]&^sets[j][n] != 0 {
					t.Fatalf("there is a mapping from %s to %s, but on %v the second one has other answers", queryText(b), queryText(a), databases[n])
				}
			}
		}
	}
}

// chosenImage returns a query to which there often is a mapping from q.
func chosenImage(r *rand.Rand, q impl.Query) impl.Query {
	m := noMapping()
	for v := range m {
		m[v] = chosen(r, v, v, v, 0, 3, 12, -1, -3)
	}
	image := imageOfQuery(m, q)
	extra := chosenQuery(r)
	for _, a := range extra.Body[:min(len(extra.Body), 4-len(q.Body))] {
		image.Body = append(image.Body, a)
	}
	r.Shuffle(len(image.Body), func(i, j int) { image.Body[i], image.Body[j] = image.Body[j], image.Body[i] })
	if r.Intn(3) == 0 {
		// One argument changes, which may leave the head without its variable.
		a := image.Body[r.Intn(len(image.Body))]
		a.Args[r.Intn(len(a.Args))] = chosen(r, 0, 3, 12, 19, -1, -3)
	}
	return image
}

// Promise 3: queries of up to four atoms, on databases of up to 24 facts.
func TestMappingsOfChosenQueries(t *testing.T) {
	s := querySchema()
	r := rand.New(rand.NewSource(7))
	found, missed, answers := 0, 0, 0
	for range 20000 {
		from := chosenQuery(r)
		to := chosenImage(r, from)
		if !impl.IsQuery(s, to) {
			checkNoMapping(t, s, from, to)
			continue
		}
		if !checkMapping(t, s, from, to) {
			missed++
			continue
		}
		found++
		for range 3 {
			db := chosenFacts(r)
			for _, tuple := range impl.Answers(s, to, db) {
				answers++
				if !impl.IsAnswer(s, from, db, tuple) {
					t.Fatalf("there is a mapping from %s to %s, but %v is no answer of the first one on %v", queryText(from), queryText(to), tuple, db)
				}
			}
		}
	}
	if found < 5000 || missed < 2000 || answers < 5000 {
		t.Errorf("only %d mappings, %d pairs without one and %d answers", found, missed, answers)
	}
}

// Four atoms with twelve variables, up to the last one, and one atom or element
// of the head more.
func TestMappingLimits(t *testing.T) {
	s := querySchema()
	q, _ := largestQuery()
	want := noMapping()
	for v := 8; v < 20; v++ {
		want[v] = v
	}
	if !impl.IsMapping(s, q, q, want) {
		t.Errorf("IsMapping of the largest query to itself, %v = false", want)
	}
	// The head fixes all atoms but the second one, which becomes the first one.
	want[9], want[13], want[17] = 8, 12, 16
	if got, ok := impl.FindMapping(s, q, q); !ok || !slices.Equal(got, want) || !impl.IsMapping(s, q, q, want) {
		t.Errorf("FindMapping of the largest query to itself = %v, %v", got, ok)
	}
	// Without a head, all atoms become the first one.
	free := impl.Query{Body: q.Body}
	for v := 8; v < 20; v++ {
		want[v] = v / 4 * 4
	}
	if got, ok := impl.FindMapping(s, free, free); !ok || !slices.Equal(got, want) || !impl.IsMapping(s, free, free, want) {
		t.Errorf("FindMapping of the largest query without a head = %v, %v", got, ok)
	}
	// All choices but the last one fail.
	last := impl.Query{Body: slices.Repeat([]impl.Atom{{Args: []int{1, 2}}}, 3)}
	last.Body = append(last.Body, impl.Atom{Args: []int{3, 3}})
	loop := impl.Query{Body: []impl.Atom{{Args: []int{0, 1}}, {Args: []int{1, 2}}, {Args: []int{2, 3}}, {Args: []int{3, 0}}}}
	checkMapping(t, s, loop, last)
	checkMapping(t, s, last, loop)
	checkMapping(t, s, impl.Query{Body: slices.Concat(last.Body[3:], last.Body[:3])}, loop)
	more := impl.Query{Head: q.Head, Body: append(slices.Clone(q.Body), q.Body[0])}
	longer := impl.Query{Head: append(slices.Clone(q.Head), 8), Body: q.Body}
	for _, bad := range []impl.Query{more, longer} {
		checkNoMapping(t, s, bad, q)
		checkNoMapping(t, s, q, bad)
		checkNoMapping(t, s, bad, bad)
	}
}

// Every number of atoms and of elements of the head, on both sides.
func TestMappingSizes(t *testing.T) {
	s := querySchema()
	for from := range 7 {
		for to := range 7 {
			for head := range 5 {
				a := impl.Query{Head: make([]int, head), Body: atomsOf(from)}
				b := impl.Query{Head: make([]int, head), Body: atomsOf(to)}
				if min(from, to) < 1 || max(from, to) > 4 || head > 3 {
					checkNoMapping(t, s, a, b)
				} else if !checkMapping(t, s, a, b) || !impl.IsMapping(s, a, b, mappingOf(0, 0)) {
					t.Errorf("no mapping from %d to %d atoms", from, to)
				}
			}
		}
	}
}

func TestMappingInvalid(t *testing.T) {
	s := querySchema()
	for _, q := range validQueries() {
		if !checkMapping(t, s, q, q) {
			t.Errorf("no mapping from %v to itself", q)
		}
		for _, bad := range invalidQueries() {
			checkNoMapping(t, s, q, bad)
			checkNoMapping(t, s, bad, q)
		}
		for _, bad := range invalidSchemas() {
			checkNoMapping(t, bad, q, q)
		}
	}
	for _, bad := range invalidQueries() {
		checkNoMapping(t, s, bad, bad)
	}
	// Valid, but not both for one of these schemas.
	one, two := impl.Query{Body: []impl.Atom{{Args: []int{0}}}}, impl.Query{Body: []impl.Atom{{Args: []int{0, 0}}}}
	for arity := 1; arity <= 3; arity++ {
		checkNoMapping(t, impl.Schema{Arity: []int{arity}}, one, two)
		checkNoMapping(t, impl.Schema{Arity: []int{arity}}, two, one)
	}
}

// Between all queries of one atom with two variables and a constant, and for
// all mappings of these variables: FindMapping succeeds if one of them does.
func TestIsMappingOfAllSmallQueries(t *testing.T) {
	s := impl.Schema{Arity: []int{2, 1}}
	terms := []int{0, 1, -1}
	all := append(shortQueries(terms, 1, 2), shortQueries([]int{0, -1}, 2, 1)...)
	for _, from := range all {
		for _, to := range all {
			some := false
			for _, x := range []int{noTerm, 0, 1, -1, -2} {
				for _, y := range []int{noTerm, 0, 1, -1, -2} {
					m := mappingOf(0, x, 1, y)
					want := holdsMapping(from, to, m)
					some = some || want
					if got := impl.IsMapping(s, from, to, m); got != want {
						t.Fatalf("IsMapping from %s to %s, %v = %v", queryText(from), queryText(to), m, got)
					}
				}
			}
			if _, ok := impl.FindMapping(s, from, to); ok != some {
				t.Fatalf("FindMapping from %s to %s = %v", queryText(from), queryText(to), ok)
			}
		}
	}
}

// Each element of a mapping is changed, and others than the first one that is
// found are accepted.
func TestIsMappingOfChosenQueries(t *testing.T) {
	s := querySchema()
	r := rand.New(rand.NewSource(77))
	right, wrong := 0, 0
	for range 3000 {
		from := chosenQuery(r)
		to := chosenImage(r, from)
		m, ok := impl.FindMapping(s, from, to)
		if !ok {
			continue
		}
		for v := range m {
			for _, n := range []int{noTerm, 0, 1, 3, 7, 12, 19, 20, -1, -3, -80, -81, math.MaxInt, math.MinInt} {
				changed := slices.Clone(m)
				changed[v] = n
				want := holdsMapping(from, to, changed)
				if want && n != m[v] && mentions(from.Body, v) {
					right++
				} else if !want {
					wrong++
				}
				if got := impl.IsMapping(s, from, to, changed); got != want {
					t.Fatalf("IsMapping from %s to %s, %v = %v", queryText(from), queryText(to), changed, got)
				}
			}
		}
	}
	if right < 100 || wrong < 10000 {
		t.Errorf("only %d other mappings and %d wrong ones", right, wrong)
	}
}

// Only a list of 20 elements is a mapping. What it has for variables that do
// not occur does not matter, and a variable that it does not map stays.
func TestIsMappingElements(t *testing.T) {
	s := querySchema()
	q := readEvalQuery(t, "X0 :- r0(X0,X1); r1(5)")
	for n := range 45 {
		m := []int{0, 1}
		for len(m) < n {
			m = append(m, noTerm)
		}
		if got := impl.IsMapping(s, q, q, m[:n]); got != (n == 20) {
			t.Errorf("IsMapping with %d elements = %v", n, got)
		}
	}
	if impl.IsMapping(s, q, q, nil) || impl.IsMapping(s, q, q, append(noMapping(), make([]int, 1000)...)) {
		t.Error("IsMapping with no or many elements = true")
	}
	for _, n := range append(noTerms(), 0, 19, -1, -80) {
		m := slices.Repeat([]int{n}, 20)
		m[0], m[1] = 0, 1
		if !impl.IsMapping(s, q, q, m) {
			t.Errorf("IsMapping with %d for all other variables = false", n)
		}
		m[1] = n
		if n != noTerm && impl.IsMapping(s, q, q, m) {
			t.Errorf("IsMapping with X1=%d = true", n)
		}
	}
	if !impl.IsMapping(s, q, q, noMapping()) || impl.IsMapping(s, q, readEvalQuery(t, "X0 :- r0(X0,X2); r1(5)"), noMapping()) {
		t.Error("a variable that is not mapped does not stay")
	}
	// A mapping has nothing for a constant.
	if impl.IsMapping(s, q, readEvalQuery(t, "X0 :- r0(X0,X1); r1(6)"), mappingOf(0, 0, 1, 1, 5, -7)) || impl.IsMapping(s, readEvalQuery(t, "5 :- r1(5)"), readEvalQuery(t, "6 :- r1(6)"), mappingOf(5, -7, 6, -7)) {
		t.Error("a constant does not stay")
	}
}

// Any list and any number.
func TestApplyMapping(t *testing.T) {
	long := make([]int, 1000)
	for i := range long {
		long[i] = -5000 - i
	}
	numbers := append(noTerms(), -1, -2, -80, 0, 1, 2, 3, 18, 19, 22, 999, 1001)
	for _, m := range append(shortLists([]int{noTerm, 0, 1, 7, -1, -80, math.MaxInt, math.MinInt}, 3), noMapping(), mappingOf(0, 19, 19, 0, 7, -1), long) {
		for _, n := range numbers {
			if got, want := impl.ApplyMapping(m, n), imageOf(m, n); got != want {
				t.Fatalf("ApplyMapping(%v, %d) = %d, want %d", m, n, got, want)
			}
		}
	}
	m := []int{5, noTerm, -3, 0, math.MaxInt}
	for n, want := range map[int]int{0: 5, 1: 1, 2: -3, 3: 0, 4: math.MaxInt, 5: 5, 19: 19, 20: 20, -1: -1, -3: -3, -80: -80, noTerm: noTerm, math.MaxInt: math.MaxInt, math.MinInt: math.MinInt} {
		if got := impl.ApplyMapping(m, n); got != want {
			t.Errorf("ApplyMapping(%v, %d) = %d, want %d", m, n, got, want)
		}
	}
	if got := impl.ApplyMapping(long, 25); got != -5025 {
		t.Errorf("ApplyMapping of a long list to 25 = %d", got)
	}
}

// Any lists, of any two lengths.
func TestComposeMappings(t *testing.T) {
	lists := shortLists([]int{noTerm, 0, 1, 2, -1, 25}, 3)
	for _, m := range lists {
		for _, n := range lists {
			got := impl.ComposeMappings(m, n)
			if len(got) != len(m) {
				t.Fatalf("ComposeMappings(%v, %v) = %v", m, n, got)
			}
			for i, e := range m {
				want := noTerm
				if e != noTerm {
					want = imageOf(n, e)
				}
				if got[i] != want {
					t.Fatalf("ComposeMappings(%v, %v) = %v", m, n, got)
				}
			}
		}
	}
	got := impl.ComposeMappings(mappingOf(0, 5, 1, -80, 2, 6, 19, 0), mappingOf(5, -7, 0, 19, 1, 3))
	if want := mappingOf(0, -7, 1, -80, 2, 6, 19, 19); !slices.Equal(got, want) {
		t.Errorf("ComposeMappings = %v, want %v", got, want)
	}
	big := []int{math.MaxInt, math.MinInt, 25, noTerm, -1001, -999, 30}
	if got := impl.ComposeMappings(big, append(slices.Repeat([]int{noTerm}, 25), 4)); !slices.Equal(got, []int{math.MaxInt, math.MinInt, 4, noTerm, -1001, -999, 30}) {
		t.Errorf("ComposeMappings of large numbers = %v", got)
	}
}

// Two mappings, one after the other, are a mapping.
func TestComposedMappings(t *testing.T) {
	s := querySchema()
	r := rand.New(rand.NewSource(777))
	found := 0
	for range 3000 {
		a := chosenQuery(r)
		b := chosenImage(r, a)
		c := chosenImage(r, b)
		m, first := impl.FindMapping(s, a, b)
		n, second := impl.FindMapping(s, b, c)
		if !first || !second {
			continue
		}
		found++
		both := impl.ComposeMappings(m, n)
		if !impl.IsMapping(s, a, c, both) {
			t.Fatalf("from %s over %s to %s: %v is no mapping", queryText(a), queryText(b), queryText(c), both)
		}
	}
	if found < 500 {
		t.Errorf("only %d mappings", found)
	}
}

func TestFormatMapping(t *testing.T) {
	for _, c := range []struct {
		m    []int
		want string
	}{
		{nil, "none"},
		{[]int{}, "none"},
		{noMapping(), "none"},
		{[]int{noTerm}, "none"},
		{[]int{0}, "X0=X0"},
		{[]int{noTerm, 0}, "X1=X0"},
		{[]int{5, noTerm, -6}, "X0=X5 X2=5"},
		{mappingOf(1, 1, 3, 0), "X1=X1 X3=X0"},
		{mappingOf(19, -80, 0, 19, 10, -1), "X0=X19 X10=0 X19=79"},
		{slices.Repeat([]int{-1}, 20), "X0=0 X1=0 X2=0 X3=0 X4=0 X5=0 X6=0 X7=0 X8=0 X9=0 X10=0 X11=0 X12=0 X13=0 X14=0 X15=0 X16=0 X17=0 X18=0 X19=0"},
		// An element behind the variables has no text, and none is needed for
		// what is not mapped.
		{append(mappingOf(0, 0), noTerm, noTerm), "X0=X0"},
		{append(mappingOf(0, 0), noTerm, 0), ""},
		{append(noMapping(), 0), ""},
		{append(noMapping(), -1), ""},
		{append(noMapping(), slices.Repeat([]int{noTerm}, 1000)...), "none"},
		{append(noMapping(), append(slices.Repeat([]int{noTerm}, 1000), 5)...), ""},
		{[]int{20}, ""},
		{[]int{0, 1, 20}, ""},
		{[]int{20, 1, 0}, ""},
		{[]int{-81}, ""},
	} {
		if got := impl.FormatMapping(c.m); got != c.want {
			t.Errorf("FormatMapping(%v) = %q, want %q", c.m, got, c.want)
		}
	}
}

// Every variable with every term, and with what is no term.
func TestFormatMappingTerms(t *testing.T) {
	for v := range 20 {
		for _, n := range allTerms() {
			text := "X" + strconv.Itoa(v) + "=" + headText([]int{n})
			if got := impl.FormatMapping(mappingOf(v, n)); got != text {
				t.Fatalf("FormatMapping of X%d=%d = %q, want %q", v, n, got, text)
			}
		}
		for _, n := range noTerms() {
			want := ""
			if n == noTerm {
				want = "none"
			}
			if got := impl.FormatMapping(mappingOf(v, n)); got != want {
				t.Errorf("FormatMapping of X%d=%d = %q, want %q", v, n, got, want)
			}
		}
	}
	for set := range 1 << 10 {
		m, texts := noMapping(), []string{}
		for i := range 10 {
			if set>>i&1 == 1 {
				m[2*i+1] = i
				texts = append(texts, "X"+strconv.Itoa(2*i+1)+"=X"+strconv.Itoa(i))
			}
		}
		want := strings.Join(texts, " ")
		if set == 0 {
			want = "none"
		}
		if got := impl.FormatMapping(m); got != want {
			t.Fatalf("FormatMapping(%v) = %q, want %q", m, got, want)
		}
	}
}

// The arguments stay as they are, with the memory behind them.
func TestMappingsLeaveArgumentsAlone(t *testing.T) {
	s := impl.Schema{Arity: []int{2, 1, 9}[:2]}
	terms := []int{1, 0, 1, 0, 9}
	atoms := []impl.Atom{{Args: terms[:2]}, {Rel: 1, Args: terms[2:3]}, {Rel: 1, Args: terms[3:4]}, {Rel: 9}}
	from := impl.Query{Head: terms[2:4], Body: atoms[:2]}
	to := impl.Query{Head: terms[2:4], Body: atoms[:3]}
	elements := append(mappingOf(0, 0, 1, 1), 9, 9)
	m, n := elements[:20], elements[:2]
	for range 3 {
		if _, ok := impl.FindMapping(s, from, to); !ok || !impl.IsMapping(s, from, to, m) {
			t.Fatal("there is no mapping")
		}
		if _, ok := impl.FindMapping(s, to, from); ok || impl.IsMapping(s, to, from, m) {
			t.Fatal("there is a mapping back")
		}
		impl.ApplyMapping(m, 1)
		impl.ComposeMappings(m, n)
		impl.ComposeMappings(n, m)
		impl.FormatMapping(m)
		if !slices.Equal(terms, []int{1, 0, 1, 0, 9}) || !slices.Equal(s.Arity[:3], []int{2, 1, 9}) || !slices.Equal(elements, append(mappingOf(0, 0, 1, 1), 9, 9)) {
			t.Fatalf("the arguments are now %v, %v, %v", from, elements, s)
		}
		if atoms[2].Rel != 1 || atoms[3].Rel != 9 || atoms[3].Args != nil {
			t.Fatalf("the atoms are now %v", atoms)
		}
	}
}

// A result is new memory.
func TestMappingResultsShareNoMemory(t *testing.T) {
	s := querySchema()
	from, to := readEvalQuery(t, "X0 :- r0(X0,X1)"), readEvalQuery(t, "X2 :- r0(X2,5)")
	want := mappingOf(0, 2, 1, -6)
	m, _ := impl.FindMapping(s, from, to)
	overwrite(m)
	m, _ = impl.FindMapping(s, from, to)
	if !slices.Equal(m, want) || queryText(from) != "X0 :- r0(X0,X1)" || queryText(to) != "X2 :- r0(X2,5)" {
		t.Errorf("a change of the result changed more: %v, %v, %v", m, from, to)
	}
	n := noMapping()
	overwrite(impl.ComposeMappings(m, n))
	overwrite(impl.ComposeMappings(n, m))
	if !slices.Equal(m, want) || !slices.Equal(n, noMapping()) {
		t.Errorf("a change of the result changed the arguments to %v, %v", m, n)
	}
}

package tests

import (
	"math"
	"math/rand"
	"slices"
	"testing"

	"loop.example/g01985/impl"
)

// noVariables is the binding of a body without variables.
func noVariables() []int {
	return slices.Repeat([]int{-1}, 20)
}

// bindingOf returns the binding in which these variables, each followed by its
// value, are the only ones.
func bindingOf(pairs ...int) []int {
	b := noVariables()
	for i := 0; i < len(pairs); i += 2 {
		b[pairs[i]] = pairs[i+1]
	}
	return b
}

// valuesOf replaces the terms by their values.
func valuesOf(terms []int, b []int) []int {
	var values []int
	for _, t := range terms {
		if t < 0 {
			values = append(values, -1-t)
		} else {
			values = append(values, b[t])
		}
	}
	return values
}

func mentions(body []impl.Atom, v int) bool {
	return slices.ContainsFunc(body, func(a impl.Atom) bool { return slices.Contains(a.Args, v) })
}

// triedBindings tries all values of the facts for all variables of the body,
// which does not search. As the first variable changes last, the bindings have
// the order of the specification.
func triedBindings(body []impl.Atom, db []impl.Fact) [][]int {
	var values []int
	known := map[string]bool{}
	for _, f := range db {
		values = append(values, f.Args...)
		known[factText(f)] = true
	}
	slices.Sort(values)
	values = slices.Compact(values)
	all := [][]int{noVariables()}
	for v := range 20 {
		if !mentions(body, v) {
			continue
		}
		var longer [][]int
		for _, b := range all {
			for _, n := range values {
				next := slices.Clone(b)
				next[v] = n
				longer = append(longer, next)
			}
		}
		all = longer
	}
	return slices.DeleteFunc(all, func(b []int) bool {
		return slices.ContainsFunc(body, func(a impl.Atom) bool {
			return !known[factText(impl.Fact{Rel: a.Rel, Args: valuesOf(a.Args, b)})]
		})
	})
}

// countedHeads counts the bindings of each value of the head.
func countedHeads(head []int, bindings [][]int) []impl.Counted {
	var all []impl.Counted
	for _, b := range bindings {
		values := valuesOf(head, b)
		i := slices.IndexFunc(all, func(c impl.Counted) bool { return slices.Equal(c.Tuple, values) })
		if i < 0 {
			all = append(all, impl.Counted{Tuple: values})
			i = len(all) - 1
		}
		all[i].Count++
	}
	// As arguments of one fact, the values have the order of their numbers.
	number := func(c impl.Counted) int { return factNumber(impl.Fact{Args: c.Tuple}) }
	slices.SortFunc(all, func(a, b impl.Counted) int { return number(a) - number(b) })
	return all
}

func tuplesOf(counted []impl.Counted) [][]int {
	var all [][]int
	for _, c := range counted {
		all = append(all, c.Tuple)
	}
	return all
}

func sameTuples(a [][]int, b [][]int) bool {
	return slices.EqualFunc(a, b, slices.Equal)
}

func sameCounted(a []impl.Counted, b []impl.Counted) bool {
	return slices.EqualFunc(a, b, func(c, d impl.Counted) bool {
		return c.Count == d.Count && slices.Equal(c.Tuple, d.Tuple)
	})
}

// checkEvaluation compares all functions with these bindings, the right ones.
func checkEvaluation(t *testing.T, s impl.Schema, q impl.Query, db []impl.Fact, bindings [][]int) {
	t.Helper()
	counted := countedHeads(q.Head, bindings)
	answers := tuplesOf(counted)
	if got := impl.Bindings(s, q, db); !sameTuples(got, bindings) {
		t.Fatalf("Bindings(%s, %v) = %v, want %v", queryText(q), db, got, bindings)
	}
	if got := impl.CountAnswers(s, q, db); !sameCounted(got, counted) {
		t.Fatalf("CountAnswers(%s, %v) = %v, want %v", queryText(q), db, got, counted)
	}
	if got := impl.Answers(s, q, db); !sameTuples(got, answers) {
		t.Fatalf("Answers(%s, %v) = %v, want %v", queryText(q), db, got, answers)
	}
	for _, a := range answers {
		if !impl.IsAnswer(s, q, db, a) {
			t.Fatalf("IsAnswer(%s, %v, %v) = false", queryText(q), db, a)
		}
		if impl.IsAnswer(s, q, db, append(slices.Clone(a), 0)) {
			t.Fatalf("IsAnswer(%s, %v) of %v and a zero = true", queryText(q), db, a)
		}
	}
}

// checkNoAnswers checks what the functions return for an invalid argument.
func checkNoAnswers(t *testing.T, s impl.Schema, q impl.Query, db []impl.Fact) {
	t.Helper()
	if got := impl.Bindings(s, q, db); len(got) != 0 {
		t.Errorf("Bindings(%v, %v, %v) = %v", s, q, db, got)
	}
	if got := impl.Answers(s, q, db); len(got) != 0 {
		t.Errorf("Answers(%v, %v, %v) = %v", s, q, db, got)
	}
	if got := impl.CountAnswers(s, q, db); len(got) != 0 {
		t.Errorf("CountAnswers(%v, %v, %v) = %v", s, q, db, got)
	}
	for _, tuple := range append(shortLists([]int{0, 1, 5}, 4), q.Head, make([]int, len(q.Head))) {
		if impl.IsAnswer(s, q, db, tuple) {
			t.Errorf("IsAnswer(%v, %v, %v, %v) = true", s, q, db, tuple)
		}
	}
}

func readEvalQuery(t *testing.T, text string) impl.Query {
	t.Helper()
	q, ok := impl.ParseQuery(querySchema(), text)
	if !ok {
		t.Fatalf("ParseQuery(%q) = false", text)
	}
	return q
}

// evalFacts reads facts that are in order.
func evalFacts(t *testing.T, texts ...string) []impl.Fact {
	t.Helper()
	var db []impl.Fact
	for _, text := range texts {
		f, ok := impl.ParseFact(querySchema(), text)
		if !ok {
			t.Fatalf("ParseFact(%q) = false", text)
		}
		db = append(db, f)
	}
	if !impl.IsDatabase(querySchema(), db) {
		t.Fatalf("%v is no database", texts)
	}
	return db
}

func TestUnbound(t *testing.T) {
	if impl.Unbound != -1 {
		t.Errorf("Unbound = %d", impl.Unbound)
	}
}

// The wanted bindings are written out here.
func TestEvaluation(t *testing.T) {
	db := evalFacts(t, "r0(1,2)", "r0(1,4)", "r0(2,3)", "r0(3,3)", "r1(3)", "r1(79)", "r1(80)", "r1(99)", "r2(1,1,2)", "r2(1,2,1)", "r2(2,2,2)")
	for _, c := range []struct {
		query string
		want  [][]int
	}{
		{"X0 :- r0(X0,X1)", [][]int{bindingOf(0, 1, 1, 2), bindingOf(0, 1, 1, 4), bindingOf(0, 2, 1, 3), bindingOf(0, 3, 1, 3)}},
		{"X0 :- r0(X1,X0)", [][]int{bindingOf(0, 2, 1, 1), bindingOf(0, 3, 1, 2), bindingOf(0, 3, 1, 3), bindingOf(0, 4, 1, 1)}},
		{"X0,X2 :- r0(X0,X1); r0(X1,X2); r1(X2)", [][]int{bindingOf(0, 1, 1, 2, 2, 3), bindingOf(0, 2, 1, 3, 2, 3), bindingOf(0, 3, 1, 3, 2, 3)}},
		{"X19 :- r1(X19)", [][]int{bindingOf(19, 3), bindingOf(19, 79), bindingOf(19, 80), bindingOf(19, 99)}},
		{"X18,X19,X18 :- r1(X19); r0(X18,X19)", [][]int{bindingOf(18, 2, 19, 3), bindingOf(18, 3, 19, 3)}},
		{"7 :- r0(1,X5)", [][]int{bindingOf(5, 2), bindingOf(5, 4)}},
		{"yes :- r0(1,X0)", [][]int{bindingOf(0, 2), bindingOf(0, 4)}},
		{"yes :- r0(5,X0)", nil},
		// A body without variables has one binding or none.
		{"yes :- r1(79)", [][]int{noVariables()}},
		{"79,0,5 :- r1(79); r0(1,2)", [][]int{noVariables()}},
		{"yes :- r1(78)", nil},
		{"yes :- r1(3); r1(1)", nil},
		{"yes :- r2(2,2,1)", nil},
		// A variable twice, in one atom or in two, stands for one value.
		{"X0 :- r0(X0,X0)", [][]int{bindingOf(0, 3)}},
		{"X0 :- r0(X0,X0); r1(X0)", [][]int{bindingOf(0, 3)}},
		{"X0 :- r0(X0,X0); r2(X0,X0,X0)", nil},
		{"X0 :- r1(X0); r0(2,X0)", [][]int{bindingOf(0, 3)}},
		{"X0 :- r1(X0); r0(1,X0)", nil},
		{"X0,X1 :- r2(X0,X0,X1)", [][]int{bindingOf(0, 1, 1, 2), bindingOf(0, 2, 1, 2)}},
		{"X0,X1 :- r2(X0,X1,X0)", [][]int{bindingOf(0, 1, 1, 2), bindingOf(0, 2, 1, 2)}},
		{"X0,X1 :- r2(X1,X0,X0)", [][]int{bindingOf(0, 2, 1, 2)}},
		{"X0 :- r2(X0,X0,X0)", [][]int{bindingOf(0, 2)}},
		{"X0,X1 :- r0(X0,X1); r0(X1,X0)", [][]int{bindingOf(0, 3, 1, 3)}},
		// An atom twice is as good as once, but with another variable it is not.
		{"X0 :- r0(X0,X1); r0(X0,X1)", [][]int{bindingOf(0, 1, 1, 2), bindingOf(0, 1, 1, 4), bindingOf(0, 2, 1, 3), bindingOf(0, 3, 1, 3)}},
		{"X0 :- r0(X0,X1); r0(X0,X2); r1(3)", [][]int{bindingOf(0, 1, 1, 2, 2, 2), bindingOf(0, 1, 1, 2, 2, 4), bindingOf(0, 1, 1, 4, 2, 2), bindingOf(0, 1, 1, 4, 2, 4), bindingOf(0, 2, 1, 3, 2, 3), bindingOf(0, 3, 1, 3, 2, 3)}},
	} {
		q := readEvalQuery(t, c.query)
		checkEvaluation(t, querySchema(), q, db, c.want)
		if tried := triedBindings(q.Body, db); !sameTuples(tried, c.want) {
			t.Errorf("%s: the values that were tried are %v", c.query, tried)
		}
		checkEvaluation(t, querySchema(), q, nil, nil)
	}
}

// The wanted answers are written out here.
func TestAnswers(t *testing.T) {
	db := evalFacts(t, "r0(1,2)", "r0(1,4)", "r0(2,3)", "r0(10,2)", "r1(3)")
	for _, c := range []struct {
		query string
		want  []impl.Counted
	}{
		{"X0 :- r0(X0,X1)", []impl.Counted{{Tuple: []int{1}, Count: 2}, {Tuple: []int{2}, Count: 1}, {Tuple: []int{10}, Count: 1}}},
		{"X1 :- r0(X0,X1)", []impl.Counted{{Tuple: []int{2}, Count: 2}, {Tuple: []int{3}, Count: 1}, {Tuple: []int{4}, Count: 1}}},
		{"X1,X0 :- r0(X0,X1)", []impl.Counted{{Tuple: []int{2, 1}, Count: 1}, {Tuple: []int{2, 10}, Count: 1}, {Tuple: []int{3, 2}, Count: 1}, {Tuple: []int{4, 1}, Count: 1}}},
		{"X0,X0,9 :- r0(X0,X1)", []impl.Counted{{Tuple: []int{1, 1, 9}, Count: 2}, {Tuple: []int{2, 2, 9}, Count: 1}, {Tuple: []int{10, 10, 9}, Count: 1}}},
		{"79,0 :- r0(X0,X1)", []impl.Counted{{Tuple: []int{79, 0}, Count: 4}}},
		{"0,79 :- r1(3)", []impl.Counted{{Tuple: []int{0, 79}, Count: 1}}},
		{"yes :- r0(X0,X1)", []impl.Counted{{Count: 4}}},
		{"yes :- r0(X0,X1); r0(X2,X3)", []impl.Counted{{Count: 16}}},
		{"yes :- r1(3)", []impl.Counted{{Count: 1}}},
		{"yes :- r1(4)", nil},
		{"0 :- r1(4)", nil},
	} {
		q := readEvalQuery(t, c.query)
		if got := impl.CountAnswers(querySchema(), q, db); !sameCounted(got, c.want) {
			t.Errorf("CountAnswers of %s = %v, want %v", c.query, got, c.want)
		}
		if got := impl.Answers(querySchema(), q, db); !sameTuples(got, tuplesOf(c.want)) {
			t.Errorf("Answers of %s = %v", c.query, got)
		}
	}
}

// smallAtoms returns all atoms of these terms, of a relation with two arguments
// and of one with one.
func smallAtoms(terms []int) []impl.Atom {
	var atoms []impl.Atom
	for _, args := range shortLists(terms, 2)[1:] {
		atoms = append(atoms, impl.Atom{Rel: 2 - len(args), Args: args})
	}
	return atoms
}

// binaryFacts returns all facts of these relations with the values 0 and 1.
func binaryFacts() []impl.Fact {
	return []impl.Fact{{Args: []int{0, 0}}, {Args: []int{0, 1}}, {Args: []int{1, 0}}, {Args: []int{1, 1}}, {Rel: 1, Args: []int{0}}, {Rel: 1, Args: []int{1}}}
}

// smallQueries returns the queries with this body and a head of up to two of
// these terms.
func smallQueries(body []impl.Atom, terms []int) []impl.Query {
	var all []impl.Query
	for _, head := range shortLists(terms, 2) {
		if !slices.ContainsFunc(head, func(t int) bool { return t >= 0 && !mentions(body, t) }) {
			all = append(all, impl.Query{Head: head, Body: body})
		}
	}
	return all
}

// Promise 14: all queries of up to two atoms with these terms, on all databases
// of six facts.
func TestEvaluationOfAllSmallQueries(t *testing.T) {
	s := impl.Schema{Arity: []int{2, 1}}
	terms := []int{0, 1, -1}
	atoms := smallAtoms(terms)
	databases := databasesOf(binaryFacts())
	for _, a := range atoms {
		bodies := [][]impl.Atom{{a}}
		for _, b := range atoms {
			bodies = append(bodies, []impl.Atom{a, b})
		}
		for _, body := range bodies {
			for _, db := range databases {
				bindings := triedBindings(body, db)
				for _, q := range smallQueries(body, terms) {
					checkEvaluation(t, s, q, db, bindings)
				}
			}
		}
	}
}

// chosen returns one of the numbers.
func chosen(r *rand.Rand, numbers ...int) int {
	return numbers[r.Intn(len(numbers))]
}

// chosenQuery returns a valid query with up to four atoms for querySchema.
func chosenQuery(r *rand.Rand) impl.Query {
	var q impl.Query
	var used []int
	for range 1 + r.Intn(4) {
		rel := r.Intn(3)
		a := impl.Atom{Rel: rel}
		for range []int{2, 1, 3}[rel] {
			a.Args = append(a.Args, chosen(r, 0, 1, 7, 19, 0, 1, 7, 19, -1, -3, -80))
		}
		used = append(used, a.Args...)
		q.Body = append(q.Body, a)
	}
	for range r.Intn(4) {
		q.Head = append(q.Head, chosen(r, append(used, -1, -80)...))
	}
	return q
}

// chosenFacts returns a database with up to 24 facts for querySchema.
func chosenFacts(r *rand.Rand) []impl.Fact {
	var db []impl.Fact
	for range r.Intn(25) {
		rel := chosen(r, 0, 0, 1, 2, 2)
		f := impl.Fact{Rel: rel}
		for range []int{2, 1, 3}[rel] {
			f.Args = append(f.Args, chosen(r, 0, 0, 2, 2, 10, 79, 99))
		}
		db = withFact(db, f)
	}
	return db
}

// Promise 14: queries of up to four atoms on databases of up to 24 facts.
func TestEvaluationOfChosenQueries(t *testing.T) {
	r := rand.New(rand.NewSource(6))
	found := 0
	for range 4000 {
		q, db := chosenQuery(r), chosenFacts(r)
		bindings := triedBindings(q.Body, db)
		if len(bindings) > 0 {
			found++
		}
		checkEvaluation(t, querySchema(), q, db, bindings)
	}
	if found < 1000 {
		t.Errorf("only %d of the queries have answers", found)
	}
}

// The order of the atoms and of the facts' relations does not matter: the order
// of the bindings is that of their values.
func TestBindingsInOrder(t *testing.T) {
	db := evalFacts(t, "r0(1,20)", "r0(2,10)", "r0(3,3)", "r1(3)", "r1(10)", "r1(20)")
	want := [][]int{bindingOf(0, 3, 1, 3), bindingOf(0, 10, 1, 2), bindingOf(0, 20, 1, 1)}
	for _, text := range []string{"X0 :- r0(X1,X0); r1(X0)", "X0 :- r1(X0); r0(X1,X0)"} {
		if got := impl.Bindings(querySchema(), readEvalQuery(t, text), db); !sameTuples(got, want) {
			t.Errorf("Bindings of %s = %v", text, got)
		}
	}
}

// largestQuery has four atoms with twelve variables, up to the last one, each
// of which can be any of 24 facts.
func largestQuery() (impl.Query, []impl.Fact) {
	q := impl.Query{Head: []int{19, 10, 8}}
	for i := range 4 {
		q.Body = append(q.Body, impl.Atom{Rel: 2, Args: []int{8 + i, 12 + i, 16 + i}})
	}
	var db []impl.Fact
	for i := range 24 {
		db = append(db, impl.Fact{Rel: 2, Args: []int{i * 4, 99 - i, i * 7 % 24}})
	}
	return q, db
}

func TestEvaluationLimits(t *testing.T) {
	s := querySchema()
	q, db := largestQuery()
	bindings := impl.Bindings(s, q, db)
	if len(bindings) != 24*24*24*24 {
		t.Fatalf("%d bindings", len(bindings))
	}
	// The first four variables stand for the facts, in order.
	for n, b := range bindings {
		want := noVariables()
		for i, place := range []int{13824, 576, 24, 1} {
			f := db[n/place%24]
			want[8+i], want[12+i], want[16+i] = f.Args[0], f.Args[1], f.Args[2]
		}
		if !slices.Equal(b, want) {
			t.Fatalf("binding %d is %v, want %v", n, b, want)
		}
	}
	counted := impl.CountAnswers(s, q, db)
	answers := impl.Answers(s, q, db)
	if len(counted) != 13824 || len(answers) != 13824 {
		t.Fatalf("%d and %d answers", len(counted), len(answers))
	}
	for n, c := range counted {
		want := []int{n / 576, n / 24 % 24 * 4, n % 24 * 4}
		if c.Count != 24 || !slices.Equal(c.Tuple, want) || !slices.Equal(answers[n], want) {
			t.Fatalf("answer %d is %v, %v, want %v", n, c, answers[n], want)
		}
	}
	if !impl.IsAnswer(s, q, db, []int{23, 92, 92}) || impl.IsAnswer(s, q, db, []int{23, 92, 93}) {
		t.Error("IsAnswer is wrong for the last answer")
	}
	// One atom, one fact and one element of the head too many.
	checkNoAnswers(t, s, impl.Query{Head: q.Head, Body: append(q.Body, q.Body[0])}, db)
	checkNoAnswers(t, s, q, append(db, impl.Fact{Rel: 2, Args: []int{99, 99, 99}}))
	checkNoAnswers(t, s, impl.Query{Head: append(q.Head, 8), Body: q.Body}, db)
}

// The numbers of atoms and of facts around the limits.
func TestEvaluationSizes(t *testing.T) {
	s := querySchema()
	for atoms := range 7 {
		for facts := range 27 {
			q := impl.Query{Head: []int{0}}
			for range atoms {
				q.Body = append(q.Body, impl.Atom{Args: []int{-1, 0}})
			}
			db := manyFacts(facts)
			if atoms < 1 || atoms > 4 || facts > 24 {
				checkNoAnswers(t, s, q, db)
				continue
			}
			var want [][]int
			for n := range facts {
				want = append(want, bindingOf(0, n))
			}
			checkEvaluation(t, s, q, db, want)
		}
	}
}

// Every variable and the numbers around them, every value and every constant.
func TestEvaluationNumbers(t *testing.T) {
	s := querySchema()
	for v := -2; v < 22; v++ {
		q := impl.Query{Head: []int{v}, Body: []impl.Atom{{Rel: 1, Args: []int{v}}}}
		db := []impl.Fact{{Rel: 1, Args: []int{5}}}
		switch {
		case v < 0:
			checkEvaluation(t, s, q, db, nil)
		case v >= 20:
			checkNoAnswers(t, s, q, db)
		default:
			checkEvaluation(t, s, q, db, [][]int{bindingOf(v, 5)})
		}
	}
	for n := -2; n <= 102; n++ {
		db := []impl.Fact{{Rel: 1, Args: []int{n}}}
		all := impl.Query{Head: []int{0}, Body: []impl.Atom{{Rel: 1, Args: []int{0}}}}
		if n < 0 || n > 99 {
			checkNoAnswers(t, s, all, db)
		} else {
			checkEvaluation(t, s, all, db, [][]int{bindingOf(0, n)})
		}
		for c := range 83 {
			q := impl.Query{Body: []impl.Atom{{Rel: 1, Args: []int{-1 - c}}}}
			want := n >= 0 && n <= 99 && c <= 79 && n == c
			if got := impl.IsAnswer(s, q, db, nil); got != want {
				t.Errorf("IsAnswer for the value %d and the constant %d = %v", n, c, got)
			}
			q.Head = []int{-1 - c}
			if got := impl.Answers(s, q, db); len(got) > 1 || (len(got) == 1) != want || want && !slices.Equal(got[0], []int{c}) {
				t.Errorf("Answers for the value %d and the constant %d = %v", n, c, got)
			}
		}
	}
}

func TestEvaluationInvalid(t *testing.T) {
	s := querySchema()
	whole := evalFacts(t, "r0(0,0)", "r0(0,1)", "r0(5,5)", "r1(0)", "r1(1)", "r2(0,0,0)")
	for _, q := range invalidQueries() {
		checkNoAnswers(t, s, q, whole)
		checkNoAnswers(t, s, q, nil)
	}
	for _, q := range validQueries() {
		for _, bad := range invalidSchemas() {
			checkNoAnswers(t, bad, q, whole)
			checkNoAnswers(t, bad, q, nil)
		}
	}
	q := impl.Query{Head: []int{0}, Body: atomsOf(1)}
	zero, one := impl.Fact{Rel: 1, Args: []int{0}}, impl.Fact{Rel: 1, Args: []int{1}}
	for _, db := range [][]impl.Fact{{one, zero}, {zero, zero}, {zero, one, one}, {zero, {Args: []int{0, 0}}}, append(manyFacts(24), zero), append(manyFacts(1000), zero)} {
		checkNoAnswers(t, s, q, db)
	}
	for _, f := range invalidFacts() {
		checkNoAnswers(t, s, q, []impl.Fact{f})
		checkNoAnswers(t, s, q, []impl.Fact{zero, f})
		checkNoAnswers(t, s, q, []impl.Fact{f, zero})
	}
	// Valid, but for other schemas.
	checkNoAnswers(t, impl.Schema{Arity: []int{1}}, q, []impl.Fact{zero})
	checkNoAnswers(t, impl.Schema{Arity: []int{2, 2}}, q, []impl.Fact{zero})
	checkNoAnswers(t, impl.Schema{Arity: []int{1, 1}}, q, []impl.Fact{{Args: []int{0, 0}}, zero})
	checkEvaluation(t, impl.Schema{Arity: []int{1, 1}}, q, []impl.Fact{{Args: []int{0}}, zero}, [][]int{bindingOf(0, 0)})
}

// Any tuple may be asked for.
func TestIsAnswer(t *testing.T) {
	s := querySchema()
	db := evalFacts(t, "r0(0,0)", "r0(0,1)", "r0(2,1)", "r1(0)", "r1(2)")
	numbers := []int{0, 1, 2, -1, -2, 99, 100, math.MinInt, math.MaxInt}
	for _, text := range []string{"yes :- r1(X0)", "yes :- r1(1)", "X0 :- r1(X0)", "X0 :- r0(X0,X0)", "0 :- r1(2)", "1 :- r1(X5)", "X0,X1 :- r0(X0,X1)", "X1,1 :- r0(X0,X1)", "X0,X0,X1 :- r0(X0,X1)", "0,0,0 :- r1(X0)"} {
		q := readEvalQuery(t, text)
		answers := tuplesOf(countedHeads(q.Head, triedBindings(q.Body, db)))
		for _, tuple := range append(shortLists(numbers, 4), nil, make([]int, 1000)) {
			want := slices.ContainsFunc(answers, func(a []int) bool { return slices.Equal(a, tuple) })
			if got := impl.IsAnswer(s, q, db, tuple); got != want {
				t.Fatalf("IsAnswer(%s, %v) = %v", text, tuple, got)
			}
		}
	}
}

// A head without terms has one answer, the empty tuple, or none.
func TestAnswersOfAHeadWithoutTerms(t *testing.T) {
	s := querySchema()
	for n := range 25 {
		q := impl.Query{Body: []impl.Atom{{Args: []int{0, 1}}}}
		counted := impl.CountAnswers(s, q, manyFacts(n))
		answers := impl.Answers(s, q, manyFacts(n))
		if n == 0 {
			if len(counted) != 0 || len(answers) != 0 || impl.IsAnswer(s, q, nil, nil) {
				t.Errorf("answers without facts: %v, %v", counted, answers)
			}
			continue
		}
		if len(counted) != 1 || len(counted[0].Tuple) != 0 || counted[0].Count != n || len(answers) != 1 || len(answers[0]) != 0 {
			t.Errorf("answers with %d facts: %v, %v", n, counted, answers)
		}
		if !impl.IsAnswer(s, q, manyFacts(n), nil) || !impl.IsAnswer(s, q, manyFacts(n), []int{}) || impl.IsAnswer(s, q, manyFacts(n), []int{0}) {
			t.Errorf("IsAnswer is wrong with %d facts", n)
		}
	}
}

// Lists of any numbers and lengths, in any order and any number.
func TestSameTuples(t *testing.T) {
	tuples := [][]int{{}, {0}, {1}, {0, 0}, {0, 1}, {math.MinInt, -1, math.MaxInt, 7}, {math.MinInt, -1, math.MaxInt, 8}}
	lists := shortLists([]int{0, 1, 2, 3, 4, 5, 6}, 3)
	chosenTuples := func(list []int) [][]int {
		var all [][]int
		for _, n := range list {
			all = append(all, slices.Clone(tuples[n]))
		}
		return all
	}
	inside := func(a, b []int) bool {
		return !slices.ContainsFunc(a, func(n int) bool { return !slices.Contains(b, n) })
	}
	for _, a := range lists {
		for _, b := range lists {
			want := inside(a, b) && inside(b, a)
			if got := impl.SameTuples(chosenTuples(a), chosenTuples(b)); got != want {
				t.Fatalf("SameTuples(%v, %v) = %v", chosenTuples(a), chosenTuples(b), got)
			}
		}
	}
}

func TestSameTuplesEmptyAndMany(t *testing.T) {
	empty := [][][]int{nil, {}}
	for _, a := range empty {
		for _, b := range empty {
			if !impl.SameTuples(a, b) {
				t.Errorf("SameTuples of two empty lists = false")
			}
		}
		if impl.SameTuples(a, [][]int{nil}) || impl.SameTuples([][]int{{}}, a) {
			t.Error("SameTuples of no tuple and the empty one = true")
		}
	}
	if !impl.SameTuples([][]int{nil}, [][]int{{}, nil}) || !impl.SameTuples([][]int{{}, nil, {}}, [][]int{nil}) {
		t.Error("a nil tuple differs from an empty one")
	}
	var up, down [][]int
	for n := range 20000 {
		up = append(up, []int{n / 100, n % 100})
		down = append(down, []int{(19999 - n) / 100, (19999 - n) % 100})
	}
	if !impl.SameTuples(up, down) || !impl.SameTuples(up, append(down, down[5])) || impl.SameTuples(up, down[1:]) || impl.SameTuples(up[1:], down) || impl.SameTuples(up, append(down, []int{0})) {
		t.Error("SameTuples is wrong for many tuples")
	}
}

// The arguments stay as they are, with the memory behind them.
func TestEvaluationLeavesArgumentsAlone(t *testing.T) {
	s := impl.Schema{Arity: []int{2, 1, 9}[:2]}
	terms := []int{1, 0, 1, 0, 9}
	atoms := []impl.Atom{{Args: terms[:2]}, {Rel: 1, Args: terms[2:3]}, {Rel: 1, Args: terms[3:4]}, {Rel: 9}}
	q := impl.Query{Head: terms[2:4], Body: atoms[:2]}
	values := []int{0, 1, 1, 0, 9}
	facts := []impl.Fact{{Args: values[:2]}, {Args: values[2:4]}, {Rel: 1, Args: values[3:4]}, {Rel: 1, Args: values[2:3]}, {Rel: 9}}
	db := facts[:4]
	tuple := []int{0, 1, 9}[:2]
	tuples := [][]int{values[2:4], values[:2], values[1:3], values[:2], values[4:]}
	wantFacts := cloneFacts(facts)
	for range 3 {
		if got := impl.Bindings(s, q, db); len(got) != 2 {
			t.Fatalf("Bindings = %v", got)
		}
		impl.Answers(s, q, db)
		impl.CountAnswers(s, q, db)
		impl.IsAnswer(s, q, db, tuple)
		impl.SameTuples(tuples[:4], tuples[:2])
		impl.SameTuples(tuples[:2], tuples[:4])
		if !slices.Equal(terms, []int{1, 0, 1, 0, 9}) || !slices.Equal(values, []int{0, 1, 1, 0, 9}) || !sameFacts(facts, wantFacts) || !slices.Equal(tuple[:3], []int{0, 1, 9}) || !slices.Equal(s.Arity[:3], []int{2, 1, 9}) {
			t.Fatalf("the arguments are now %v, %v, %v, %v", q, facts, tuple, s)
		}
		if atoms[2].Rel != 1 || atoms[3].Rel != 9 || atoms[3].Args != nil || !sameTuples(tuples, [][]int{{1, 0}, {0, 1}, {1, 1}, {0, 1}, {9}}) {
			t.Fatalf("the arguments are now %v, %v", atoms, tuples)
		}
	}
}

// checkOwnTuples overwrites the slices one after the other, and each time
// checks that no other one has changed.
func checkOwnTuples(t *testing.T, tuples [][]int) {
	t.Helper()
	var want [][]int
	for _, tuple := range tuples {
		want = append(want, slices.Clone(tuple))
	}
	for i := range tuples {
		overwrite(tuples[i])
		overwrite(want[i])
		if !sameTuples(tuples, want) {
			t.Fatalf("a change of tuple %d made the tuples %v, not %v", i, tuples, want)
		}
	}
}

// A result is new memory, and no two of its slices share any.
func TestEvaluationResultsShareNoMemory(t *testing.T) {
	s := querySchema()
	db := evalFacts(t, "r0(1,2)", "r0(1,4)", "r0(2,3)", "r1(3)")
	want := cloneFacts(db)
	for _, text := range []string{"X0,X1 :- r0(X0,X1)", "X0 :- r0(X0,X1)", "5 :- r1(X0)", "yes :- r0(X0,X1)", "X1,X1,X0 :- r0(X0,X1); r0(X2,X3); r1(X4)"} {
		q := readEvalQuery(t, text)
		bindings := triedBindings(q.Body, db)
		checkOwnTuples(t, impl.Bindings(s, q, db))
		checkOwnTuples(t, impl.Answers(s, q, db))
		checkOwnTuples(t, tuplesOf(impl.CountAnswers(s, q, db)))
		checkEvaluation(t, s, q, db, bindings)
		if queryText(q) != text || !sameFacts(db, want) {
			t.Fatalf("a change of the results changed the arguments to %v, %v", q, db)
		}
	}
}

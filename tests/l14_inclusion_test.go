package tests

import (
	"math"
	"math/rand"
	"slices"
	"strconv"
	"strings"
	"testing"

	"loop.example/g01985/impl"
)

// inclusionText builds the format of an inclusion from the words of the
// specification.
func inclusionText(x impl.Inclusion) string {
	side := func(rel int, places []int) string {
		text := "r" + strconv.Itoa(rel)
		for _, place := range places {
			text += " " + strconv.Itoa(place)
		}
		return text
	}
	return side(x.From, x.FromAt) + " in " + side(x.To, x.ToAt)
}

// readSide reads a relation and its places.
func readSide(t *testing.T, text string) (int, []int) {
	t.Helper()
	var numbers []int
	for _, word := range strings.Fields(strings.TrimPrefix(text, "r")) {
		n, err := strconv.Atoi(word)
		if err != nil {
			t.Fatal(err)
		}
		numbers = append(numbers, n)
	}
	return numbers[0], numbers[1:]
}

// readInclusions reads inclusions that are separated by commas.
func readInclusions(t *testing.T, s impl.Schema, texts string) []impl.Inclusion {
	t.Helper()
	var all []impl.Inclusion
	if texts == "" {
		return nil
	}
	for _, text := range strings.Split(texts, ", ") {
		from, to, _ := strings.Cut(text, " in ")
		var x impl.Inclusion
		x.From, x.FromAt = readSide(t, from)
		x.To, x.ToAt = readSide(t, to)
		if !impl.IsInclusion(s, x) || inclusionText(x) != text {
			t.Fatalf("%q is no inclusion: %v", text, x)
		}
		all = append(all, x)
	}
	return all
}

func inclusionTexts(l []impl.Inclusion) string {
	var texts []string
	for _, x := range l {
		texts = append(texts, inclusionText(x))
	}
	return strings.Join(texts, ", ")
}

// placeLists returns the lists of different places of a relation with this
// number of arguments.
func placeLists(arity int) [][]int {
	return [][][]int{
		1: {{0}},
		2: {{0}, {1}, {0, 1}, {1, 0}},
		3: {{0}, {1}, {2}, {0, 1}, {0, 2}, {1, 0}, {1, 2}, {2, 0}, {2, 1}, {0, 1, 2}, {0, 2, 1}, {1, 0, 2}, {1, 2, 0}, {2, 0, 1}, {2, 1, 0}},
	}[arity]
}

func isPlaceList(places []int, arity int) bool {
	return slices.ContainsFunc(placeLists(arity), func(l []int) bool { return slices.Equal(l, places) })
}

// inclusionsOf returns all valid inclusions of a schema.
func inclusionsOf(s impl.Schema) []impl.Inclusion {
	var all []impl.Inclusion
	for from, n := range s.Arity {
		for to, m := range s.Arity {
			for _, fromAt := range placeLists(n) {
				for _, toAt := range placeLists(m) {
					if len(fromAt) == len(toAt) {
						all = append(all, impl.Inclusion{From: from, FromAt: fromAt, To: to, ToAt: toAt})
					}
				}
			}
		}
	}
	return all
}

// invalidInclusions are not valid for querySchema.
func invalidInclusions() []impl.Inclusion {
	all := []impl.Inclusion{
		{},
		{FromAt: []int{}, ToAt: []int{}},
		{To: 1},
		{From: 2, To: 2},
		{FromAt: []int{0}},
		{ToAt: []int{0}},
		{FromAt: []int{0}, ToAt: []int{0, 1}},
		{FromAt: []int{0, 1}, ToAt: []int{0}},
		{From: 2, FromAt: []int{0, 1, 2}, ToAt: []int{0, 1}},
		{FromAt: []int{0, 1}, To: 2, ToAt: []int{0, 1, 2}},
		{FromAt: []int{0, 0}, ToAt: []int{0, 1}},
		{FromAt: []int{0, 1}, ToAt: []int{1, 1}},
		{FromAt: []int{1, 1}, ToAt: []int{1, 1}},
		{From: 2, FromAt: []int{0, 1, 0}, To: 2, ToAt: []int{0, 1, 2}},
		{From: 2, FromAt: []int{0, 1, 2}, To: 2, ToAt: []int{0, 2, 2}},
		{From: 2, FromAt: []int{2, 2, 1}, To: 2, ToAt: []int{0, 1, 2}},
		{From: 1, FromAt: []int{0, 0}, To: 1, ToAt: []int{0, 0}},
		{From: 2, FromAt: []int{0, 1, 2, 0}, To: 2, ToAt: []int{0, 1, 2, 0}},
		{From: 2, FromAt: []int{0, 1, 2, 3}, To: 2, ToAt: []int{0, 1, 2, 3}},
		{From: 2, FromAt: make([]int, 1000), To: 2, ToAt: make([]int, 1000)},
	}
	for _, place := range []int{-1, 3, 4, math.MaxInt, math.MinInt} {
		all = append(all,
			impl.Inclusion{From: 2, FromAt: []int{place}, To: 2, ToAt: []int{0}},
			impl.Inclusion{From: 2, FromAt: []int{0}, To: 2, ToAt: []int{place}},
			impl.Inclusion{From: 2, FromAt: []int{place, 0}, To: 2, ToAt: []int{0, 1}},
			impl.Inclusion{From: 2, FromAt: []int{0, 1}, To: 2, ToAt: []int{1, place}},
		)
	}
	// The places of another relation.
	for rel, n := range []int{2, 1} {
		all = append(all,
			impl.Inclusion{From: rel, FromAt: []int{n}, To: 2, ToAt: []int{0}},
			impl.Inclusion{From: 2, FromAt: []int{0}, To: rel, ToAt: []int{n}},
		)
	}
	for _, rel := range []int{-1, 3, 4, math.MaxInt, math.MinInt} {
		all = append(all,
			impl.Inclusion{From: rel, FromAt: []int{0}, ToAt: []int{0}},
			impl.Inclusion{FromAt: []int{0}, To: rel, ToAt: []int{0}},
			impl.Inclusion{From: rel, FromAt: []int{0}, To: rel, ToAt: []int{0}},
		)
	}
	return all
}

func TestInclusionLimits(t *testing.T) {
	if impl.ChaseDone != 0 || impl.ChaseFailed != 1 || impl.ChaseOpen != 2 {
		t.Errorf("the codes of the chase are %d, %d, %d", impl.ChaseDone, impl.ChaseFailed, impl.ChaseOpen)
	}
	if impl.ContainedYes != 1 || impl.ContainedNo != 2 || impl.ContainedUnknown != 3 {
		t.Errorf("the codes of containment are %d, %d, %d", impl.ContainedYes, impl.ContainedNo, impl.ContainedUnknown)
	}
	if impl.MaxInclusions != 3 || impl.MaxChase != 8 || impl.MaxRounds != 40 {
		t.Errorf("MaxInclusions, MaxChase, MaxRounds = %d, %d, %d", impl.MaxInclusions, impl.MaxChase, impl.MaxRounds)
	}
}

// Relations around the limits of some schemas, with every two lists of places
// around their numbers of arguments.
func TestIsInclusion(t *testing.T) {
	lists := shortLists([]int{-1, 0, 1, 2, 3}, 3)
	for _, arity := range [][]int{{1}, {2}, {3}, {2, 3}, {2, 1, 3}, {3, 3, 1, 2}} {
		s := impl.Schema{Arity: arity}
		valid := 0
		for from := -1; from <= len(arity)+1; from++ {
			for to := -1; to <= len(arity)+1; to++ {
				there := from >= 0 && from < len(arity) && to >= 0 && to < len(arity)
				for _, fromAt := range lists {
					first := there && isPlaceList(fromAt, arity[from])
					for _, toAt := range lists {
						want := first && len(fromAt) == len(toAt) && isPlaceList(toAt, arity[to])
						if got := impl.IsInclusion(s, impl.Inclusion{From: from, FromAt: fromAt, To: to, ToAt: toAt}); got != want {
							t.Fatalf("IsInclusion(%v, %d, %v, %d, %v) = %v", s, from, fromAt, to, toAt, got)
						}
						if want {
							valid++
						}
					}
				}
			}
		}
		if valid != len(inclusionsOf(s)) {
			t.Errorf("%d inclusions of %v", valid, s)
		}
	}
}

func TestIsInclusionInvalid(t *testing.T) {
	for _, x := range inclusionsOf(querySchema()) {
		if !impl.IsInclusion(querySchema(), x) {
			t.Errorf("IsInclusion(%v) = false", x)
		}
		for _, bad := range invalidSchemas() {
			if impl.IsInclusion(bad, x) {
				t.Errorf("IsInclusion(%v) for the schema %v = true", x, bad)
			}
		}
	}
	for _, x := range invalidInclusions() {
		for _, s := range append(invalidSchemas(), querySchema()) {
			if impl.IsInclusion(s, x) {
				t.Errorf("IsInclusion(%v) for the schema %v = true", x, s)
			}
		}
	}
}

// triedUnfitted writes down what the facts of To have at their places, and
// returns the index of the first fact of From that has something else, or -1.
func triedUnfitted(db []impl.Fact, x impl.Inclusion) int {
	there := map[string]bool{}
	for _, f := range db {
		if text, ok := projected(f, x.ToAt); ok && f.Rel == x.To {
			there[text] = true
		}
	}
	return slices.IndexFunc(db, func(f impl.Fact) bool {
		text, ok := projected(f, x.FromAt)
		return f.Rel == x.From && !(ok && there[text])
	})
}

// checkHolds compares HoldsInclusion with what was tried.
func checkHolds(t *testing.T, db []impl.Fact, x impl.Inclusion) bool {
	t.Helper()
	want := triedUnfitted(db, x) < 0
	if got := impl.HoldsInclusion(db, x); got != want {
		t.Fatalf("HoldsInclusion(%v, %v) = %v", db, x, got)
	}
	return want
}

// The wanted results are written out here.
func TestHoldsInclusion(t *testing.T) {
	s := querySchema()
	for _, c := range []struct {
		inclusion string
		facts     string
		want      bool
	}{
		{"r0 1 in r1 0", "", true},
		{"r0 1 in r1 0", "r0(1,2) r1(2)", true},
		{"r0 1 in r1 0", "r0(1,2) r1(1)", false},
		{"r0 1 in r1 0", "r0(1,2)", false},
		{"r0 1 in r1 0", "r1(1)", true},
		{"r0 0 in r1 0", "r0(1,2) r1(1)", true},
		{"r0 0 in r1 0", "r0(1,2) r1(2)", false},
		// Every fact of From, and any one of To.
		{"r0 1 in r1 0", "r0(1,2) r0(1,3) r0(2,2) r1(0) r1(2) r1(3) r1(4)", true},
		{"r0 1 in r1 0", "r0(1,2) r0(1,3) r0(2,2) r1(2)", false},
		{"r0 1 in r1 0", "r0(1,2) r0(1,3) r0(2,2) r1(3)", false},
		{"r0 1 in r1 0", "r0(1,2) r2(2,2,2)", false},
		{"r1 0 in r0 1", "r0(1,2) r0(5,7) r1(2) r1(7)", true},
		{"r1 0 in r0 1", "r0(1,2) r0(7,5) r1(2) r1(7)", false},
		// All places of one fact.
		{"r0 0 1 in r2 0 1", "r0(1,2) r2(1,2,9)", true},
		{"r0 0 1 in r2 0 1", "r0(1,2) r2(1,1,9) r2(2,2,9)", false},
		{"r0 0 1 in r2 0 1", "r0(1,2) r2(2,1,9)", false},
		{"r0 0 1 in r2 1 0", "r0(1,2) r2(2,1,9)", true},
		{"r0 1 0 in r2 0 1", "r0(1,2) r2(2,1,9)", true},
		{"r0 1 0 in r2 2 0", "r0(1,2) r2(1,9,2)", true},
		{"r0 1 0 in r2 2 0", "r0(1,2) r2(2,9,1)", false},
		{"r2 2 0 in r0 0 1", "r0(3,1) r2(1,2,3)", true},
		{"r2 2 0 in r0 0 1", "r0(1,3) r2(1,2,3)", false},
		{"r2 0 1 2 in r2 1 2 0", "r2(1,2,3) r2(2,3,1) r2(3,1,2)", true},
		{"r2 0 1 2 in r2 1 2 0", "r2(1,2,3) r2(2,3,1)", false},
		// The values that stand for variables.
		{"r0 1 in r1 0", "r0(0,99) r1(99)", true},
		{"r0 1 in r1 0", "r0(0,99) r1(98)", false},
	} {
		x := readInclusions(t, s, c.inclusion)[0]
		db := evalFacts(t, strings.Fields(c.facts)...)
		if got := checkHolds(t, db, x); got != c.want {
			t.Errorf("%s on %s: %v", c.inclusion, c.facts, got)
		}
	}
}

// All inclusions on all databases of up to nine facts.
func TestInclusionsOnAllSmallDatabases(t *testing.T) {
	facts := evalFacts(t, strings.Fields("r0(0,0) r0(0,1) r0(1,0) r1(0) r1(1) r2(0,0,1) r2(0,1,0) r2(1,0,0) r2(1,1,0)")...)
	held, broken := 0, 0
	for _, db := range databasesOf(facts) {
		for _, x := range inclusionsOf(querySchema()) {
			if checkHolds(t, db, x) {
				held++
			} else {
				broken++
			}
		}
	}
	if held < 10000 || broken < 10000 {
		t.Errorf("only %d hold and %d do not", held, broken)
	}
}

// Facts and inclusions that need not be valid, in any order and any number.
func TestHoldsInclusionOfAnyFacts(t *testing.T) {
	facts := []impl.Fact{
		{Args: []int{1, 2}}, {Args: []int{2, 1}}, {Args: []int{1}}, {Args: []int{1, 2, 3, 4, 1}}, {}, {Args: []int{-7, 2}},
		{Rel: -1, Args: []int{1, 2}}, {Rel: 1, Args: []int{1}}, {Rel: 1, Args: []int{2, 1}}, {Rel: math.MaxInt, Args: []int{1}},
	}
	short := slices.DeleteFunc(invalidInclusions(), func(x impl.Inclusion) bool { return len(x.FromAt) > 10 })
	inclusions := slices.Concat(short, inclusionsOf(impl.Schema{Arity: []int{2, 1}}), []impl.Inclusion{
		{FromAt: []int{0, 0}, To: 1, ToAt: []int{0, 1}}, {FromAt: []int{4}, ToAt: []int{0}}, {FromAt: []int{0}, ToAt: []int{4}}, {FromAt: []int{0, 1, 2, 3, 4}, ToAt: []int{4, 1, 2, 3, 0}},
		{From: -1, FromAt: []int{1}, ToAt: []int{0}}, {FromAt: []int{1}, To: -1, ToAt: []int{1}}, {From: math.MaxInt, FromAt: []int{0}, To: 1, ToAt: []int{0}},
	})
	held, broken := 0, 0
	for _, list := range shortLists(indexes(len(facts)), 3) {
		var db []impl.Fact
		for _, n := range list {
			db = append(db, facts[n])
		}
		for _, x := range inclusions {
			if checkHolds(t, db, x) {
				held++
			} else {
				broken++
			}
		}
	}
	if held < 5000 || broken < 5000 {
		t.Errorf("only %d hold and %d do not", held, broken)
	}
}

// A fact without one of the places does not fit, whether it is of From or of To.
func TestHoldsInclusionPlaces(t *testing.T) {
	short, long := impl.Fact{Args: []int{1}}, impl.Fact{Rel: 1, Args: []int{1, 2}}
	for _, c := range []struct {
		db     []impl.Fact
		fromAt []int
		toAt   []int
		want   bool
	}{
		{[]impl.Fact{short, long}, []int{0}, []int{0}, true},
		{[]impl.Fact{short, long}, []int{0}, []int{1}, false},
		{[]impl.Fact{short, long}, []int{1}, []int{0}, false},
		{[]impl.Fact{short, long}, []int{1}, []int{1}, false},
		{[]impl.Fact{short, long}, []int{0}, []int{2}, false},
		{[]impl.Fact{short, long}, []int{0}, []int{-1}, false},
		{[]impl.Fact{short, long}, []int{-1}, []int{0}, false},
		{[]impl.Fact{short, long}, []int{math.MaxInt}, []int{0}, false},
		{[]impl.Fact{short, long}, []int{0}, []int{math.MinInt}, false},
		{[]impl.Fact{short, long}, []int{0, 0}, []int{0, 0}, true},
		{[]impl.Fact{short, long}, []int{0, 0}, []int{0, 1}, false},
		{[]impl.Fact{long}, []int{7}, []int{7}, true},
		{[]impl.Fact{short, {Rel: 1}, long}, []int{0}, []int{0}, true},
		{[]impl.Fact{short, {}, long}, []int{0}, []int{0}, false},
		// Lists of different lengths.
		{[]impl.Fact{short, long}, nil, []int{0}, false},
		{[]impl.Fact{short, long}, []int{0}, nil, false},
		{[]impl.Fact{short, long}, []int{0}, []int{0, 0}, false},
		{[]impl.Fact{short, long}, []int{0, 0}, []int{0}, false},
		{[]impl.Fact{short, long}, []int{0}, []int{0, 1}, false},
		{[]impl.Fact{long}, []int{0}, []int{0, 1}, true},
		{nil, nil, []int{0}, true},
		// Without places, every fact of To fits.
		{[]impl.Fact{short, long}, nil, nil, true},
		{[]impl.Fact{short, long}, []int{}, []int{}, true},
		{[]impl.Fact{short}, nil, nil, false},
	} {
		x := impl.Inclusion{FromAt: c.fromAt, To: 1, ToAt: c.toAt}
		if got := checkHolds(t, c.db, x); got != c.want {
			t.Errorf("HoldsInclusion(%v, %v) = %v", c.db, x, got)
		}
		other := slices.Clone(c.db)
		slices.Reverse(other)
		checkHolds(t, other, x)
	}
	// More places than a valid inclusion has, also where only the last one
	// matters.
	first, second := make([]int, 1000), make([]int, 1000)
	second[998], second[999] = 8, 9
	for _, last := range []int{0, 997, 998, 999, 1000} {
		x := impl.Inclusion{FromAt: append(make([]int, 999), last), To: 1, ToAt: append(make([]int, 999), last)}
		if got := checkHolds(t, []impl.Fact{{Args: first}, {Rel: 1, Args: second}}, x); got != (last < 998) {
			t.Errorf("HoldsInclusion with the last place %d = %v", last, got)
		}
	}
}

// More facts than a database can have, and a fact that does not fit at every
// index.
func TestHoldsInclusionOfManyFacts(t *testing.T) {
	db := append(manyFacts(300), impl.Fact{Rel: 1, Args: []int{0}})
	for n := range 300 {
		x := impl.Inclusion{FromAt: []int{0}, To: 1, ToAt: []int{0}}
		db[n].Args[0] = 5
		if checkHolds(t, db, x) {
			t.Fatalf("HoldsInclusion does not see the fact %d", n)
		}
		db[n].Args[0] = 0
		if !checkHolds(t, db, x) {
			t.Fatal("HoldsInclusion of many facts = false")
		}
	}
}

// An inclusion of a relation in itself, at the same places: it holds always, and
// the chase adds nothing.
func TestInclusionInItselfAtTheSamePlaces(t *testing.T) {
	s := querySchema()
	r := rand.New(rand.NewSource(141))
	databases := databasesOf(append(binaryFacts(), evalFacts(t, "r2(0,0,0)", "r2(0,0,1)", "r2(1,0,0)")...))
	for range 200 {
		databases = append(databases, chosenFacts(r))
	}
	databases = append(databases, manyFacts(24))
	for rel, arity := range s.Arity {
		for _, places := range placeLists(arity) {
			x := impl.Inclusion{From: rel, FromAt: places, To: rel, ToAt: slices.Clone(places)}
			if !impl.IsInclusion(s, x) || impl.FormatInclusion(x) != inclusionText(x) {
				t.Errorf("IsInclusion(%v) = false or FormatInclusion(%v) = %q", x, x, impl.FormatInclusion(x))
			}
			for _, db := range databases {
				if !checkHolds(t, db, x) {
					t.Fatalf("%v does not hold on %v", x, db)
				}
			}
			for _, q := range validQueries() {
				if got, code := impl.ChaseBoth(s, q, nil, []impl.Inclusion{x, x, x}); code != impl.ChaseDone || !sameQuery(got, withoutRepeats(q)) {
					t.Errorf("ChaseBoth(%s, %v) = %v, %d", queryText(q), x, got, code)
				}
			}
		}
	}
	// Beside other inclusions it does not matter either.
	some := readInclusions(t, s, "r0 0 in r0 0, r0 0 1 in r0 0 1, r1 0 in r1 0, r2 1 in r2 1, r2 2 0 in r2 2 0, r2 0 1 2 in r2 0 1 2")
	for range 1000 {
		q, keys, l := chosenViolations(r), chosenKeys(r), chosenInclusions(r)
		want, wantCode := impl.ChaseBoth(s, q, keys, l)
		if len(l) < 3 {
			l = slices.Insert(l, r.Intn(len(l)+1), some[r.Intn(len(some))])
		}
		if got, code := impl.ChaseBoth(s, q, keys, l); code != wantCode || !sameQuery(got, want) {
			t.Fatalf("ChaseBoth(%s, %v, %s) = %v, %d, want %v, %d", queryText(q), keys, inclusionTexts(l), got, code, want, wantCode)
		}
	}
}

// chosenInclusions returns up to three inclusions, which may be equal.
func chosenInclusions(r *rand.Rand) []impl.Inclusion {
	all := inclusionsOf(querySchema())
	var l []impl.Inclusion
	for range chosen(r, 0, 1, 1, 2, 2, 3, 3) {
		l = append(l, all[r.Intn(len(all))])
	}
	return l
}

// asFacts returns atoms as facts with terms for values.
func asFacts(body []impl.Atom) []impl.Fact {
	var facts []impl.Fact
	for _, a := range body {
		facts = append(facts, impl.Fact{Rel: a.Rel, Args: a.Args})
	}
	return facts
}

// triedAtom writes down the atom that an inclusion demands for an atom of the
// query. It fails if there is no variable for one of its places.
func triedAtom(s impl.Schema, q impl.Query, a impl.Atom, x impl.Inclusion) (impl.Atom, bool) {
	known := map[int]int{}
	for i, place := range x.ToAt {
		known[place] = a.Args[x.FromAt[i]]
	}
	var args []int
	v := 0
	for place := range s.Arity[x.To] {
		n, ok := known[place]
		if !ok {
			for v < 20 && mentions(q.Body, v) {
				v++
			}
			n, v = v, v+1
		}
		args = append(args, n)
	}
	return impl.Atom{Rel: x.To, Args: args}, v <= 20
}

// triedBoth goes through the rounds of the chase with what was tried for keys
// and inclusions.
func triedBoth(s impl.Schema, q impl.Query, keys []impl.Key, l []impl.Inclusion) (impl.Query, int) {
	for added := 0; ; added++ {
		chased, ok := triedChase(q, keys)
		if !ok {
			return impl.Query{}, impl.ChaseFailed
		}
		facts := asFacts(chased.Body)
		n := slices.IndexFunc(l, func(x impl.Inclusion) bool { return triedUnfitted(facts, x) >= 0 })
		if n < 0 {
			return chased, impl.ChaseDone
		}
		a, ok := triedAtom(s, chased, chased.Body[triedUnfitted(facts, l[n])], l[n])
		if !ok || len(chased.Body) == 8 || added == 40 {
			return chased, impl.ChaseOpen
		}
		q = impl.Query{Head: chased.Head, Body: append(slices.Clone(chased.Body), a)}
	}
}

// bothHold reports whether keys and inclusions hold among the facts.
func bothHold(db []impl.Fact, keys []impl.Key, l []impl.Inclusion) bool {
	broken := func(x impl.Inclusion) bool { return triedUnfitted(db, x) >= 0 }
	return triedViolation(db, keys)[0] < 0 && !slices.ContainsFunc(l, broken)
}

// checkBoth compares ChaseBoth with what was tried, for valid arguments. In the
// result, the keys hold, and the inclusions hold exactly if the chase is done.
func checkBoth(t *testing.T, s impl.Schema, q impl.Query, keys []impl.Key, l []impl.Inclusion) (impl.Query, int) {
	t.Helper()
	want, wantCode := triedBoth(s, q, keys, l)
	got, code := impl.ChaseBoth(s, q, keys, l)
	if code != wantCode || !sameQuery(got, want) {
		t.Fatalf("ChaseBoth(%s, %v, %s) = %v, %d, want %v, %d", queryText(q), keys, inclusionTexts(l), got, code, want, wantCode)
	}
	if code != impl.ChaseFailed {
		facts, _ := frozen(got)
		if bothHold(facts, keys, nil) != true || bothHold(facts, keys, l) != (code == impl.ChaseDone) {
			t.Fatalf("ChaseBoth(%s, %v, %s) = %s, %d, although that is not so", queryText(q), keys, inclusionTexts(l), queryText(got), code)
		}
	}
	return want, code
}

// checkNoBoth checks what ChaseBoth returns if the chase fails or an argument is
// not valid.
func checkNoBoth(t *testing.T, s impl.Schema, q impl.Query, keys []impl.Key, l []impl.Inclusion) {
	t.Helper()
	if got, code := impl.ChaseBoth(s, q, keys, l); code != impl.ChaseFailed || !sameQuery(got, impl.Query{}) {
		t.Errorf("ChaseBoth(%v, %v, %v, %v) = %v, %d, want the zero value, %d", s, q, keys, l, got, code, impl.ChaseFailed)
	}
}

// checkWithin compares ContainedWith with the chase and the mappings that were
// tried, and checks promise 6: a query that is not contained has an answer on
// its finished chase, in which keys and inclusions hold, that the other one does
// not have.
func checkWithin(t *testing.T, s impl.Schema, a impl.Query, b impl.Query, keys []impl.Key, l []impl.Inclusion) int {
	t.Helper()
	chased, code := checkBoth(t, s, a, keys, l)
	_, mapped := triedMapping(b, chased)
	want := impl.ContainedNo
	switch {
	case len(a.Head) != len(b.Head):
	case mapped || code == impl.ChaseFailed:
		want = impl.ContainedYes
	case code == impl.ChaseOpen:
		want = impl.ContainedUnknown
	default:
		facts, head := frozen(chased)
		if !bothHold(facts, keys, l) || !impl.IsAnswer(s, a, facts, head) || impl.IsAnswer(s, b, facts, head) {
			t.Fatalf("%v and %v are no counterexample for %s and %s under %v and %s", facts, head, queryText(a), queryText(b), keys, inclusionTexts(l))
		}
	}
	if got := impl.ContainedWith(s, a, b, keys, l); got != want {
		t.Fatalf("ContainedWith(%s, %s, %v, %s) = %d, want %d", queryText(a), queryText(b), keys, inclusionTexts(l), got, want)
	}
	return want
}

// checkNotWithin checks what ContainedWith returns if one of the queries, the
// keys or the inclusions are not valid.
func checkNotWithin(t *testing.T, s impl.Schema, a impl.Query, b impl.Query, keys []impl.Key, l []impl.Inclusion) {
	t.Helper()
	if ab, ba := impl.ContainedWith(s, a, b, keys, l), impl.ContainedWith(s, b, a, keys, l); ab != impl.ContainedNo || ba != impl.ContainedNo {
		t.Errorf("ContainedWith(%v, %v, %v, %v, %v) = %d and back %d, want %d", s, a, b, keys, l, ab, ba, impl.ContainedNo)
	}
}

// A bothCase is a chase in words, with its result.
type bothCase struct {
	keys       string
	inclusions string
	query      string
	want       string
	note       string
}

func checkBothCases(t *testing.T, code int, cases []bothCase) {
	t.Helper()
	s := querySchema()
	for _, c := range cases {
		q, keys, l := readEvalQuery(t, c.query), readKeys(t, s, c.keys), readInclusions(t, s, c.inclusions)
		if got, n := impl.ChaseBoth(s, q, keys, l); n != code || queryText(got) != c.want {
			t.Errorf("%s: ChaseBoth(%s, %s, %s) = %s, %d, want %s, %d", c.note, c.query, c.keys, c.inclusions, queryText(got), n, c.want, code)
		}
		checkBoth(t, s, q, keys, l)
	}
}

// The wanted results are written out here.
func TestChaseBothIsDone(t *testing.T) {
	checkBothCases(t, impl.ChaseDone, []bothCase{
		{"", "r0 1 in r1 0", "X0 :- r0(X0,X1)", "X0 :- r0(X0,X1); r1(X1)", "no new variable"},
		{"", "r0 0 in r1 0", "X0 :- r0(X0,X1)", "X0 :- r0(X0,X1); r1(X0)", "the other place"},
		{"", "r1 0 in r0 1", "X0 :- r1(X0)", "X0 :- r1(X0); r0(X1,X0)", "a new variable at the first place"},
		{"", "r1 0 in r0 0", "X1 :- r1(X1)", "X1 :- r1(X1); r0(X1,X0)", "the smallest one that is not used"},
		{"", "r1 0 in r2 1", "X1 :- r1(X1)", "X1 :- r1(X1); r2(X0,X1,X2)", "two new variables around a used one"},
		{"", "r1 0 in r2 2", "X5,X0 :- r1(X5); r1(X0)", "X5,X0 :- r1(X5); r1(X0); r2(X1,X2,X5); r2(X3,X4,X0)", "from the first place on"},
		{"", "r1 0 in r2 0", "X19,X18 :- r1(X19); r0(X18,X1)", "X19,X18 :- r1(X19); r0(X18,X1); r2(X19,X0,X2)", "the last variable is used"},
		{"", "r0 0 1 in r2 2 0", "X0 :- r0(X0,X1)", "X0 :- r0(X0,X1); r2(X1,X2,X0)", "two places in another order"},
		{"", "r0 1 0 in r2 0 1", "X0 :- r0(X0,X1)", "X0 :- r0(X0,X1); r2(X1,X0,X2)", "both lists in another order"},
		{"", "r2 2 0 in r0 0 1", "X0 :- r2(X0,X1,X2)", "X0 :- r2(X0,X1,X2); r0(X2,X0)", "all places of the new atom"},
		{"", "r2 1 in r1 0", "yes :- r2(1,2,3)", "yes :- r2(1,2,3); r1(2)", "constants"},
		{"", "r0 1 in r1 0", "X0 :- r0(X0,5); r1(5)", "X0 :- r0(X0,5); r1(5)", "a constant that fits"},
		{"", "r0 1 in r1 0", "X0 :- r0(X0,5); r1(6)", "X0 :- r0(X0,5); r1(6); r1(5)", "a constant that does not fit"},
		{"", "r0 1 in r1 0", "X0 :- r0(X0,5); r1(X0)", "X0 :- r0(X0,5); r1(X0); r1(5)", "a variable does not fit a constant"},
		{"", "r0 1 in r1 0", "X0 :- r0(X0,X1); r1(5)", "X0 :- r0(X0,X1); r1(5); r1(X1)", "a constant does not fit a variable"},
		{"", "r0 1 in r1 0", "X0 :- r0(X0,X1); r1(X0)", "X0 :- r0(X0,X1); r1(X0); r1(X1)", "another variable does not fit"},
		{"", "r0 1 in r1 0", "X0 :- r1(X1); r0(X0,X1)", "X0 :- r1(X1); r0(X0,X1)", "an atom before it fits"},
		{"", "r0 1 in r1 0", "X0 :- r0(X0,X1); r0(X2,X1)", "X0 :- r0(X0,X1); r0(X2,X1); r1(X1)", "one atom fits two"},
		{"", "r0 1 in r1 0", "X0 :- r2(X0,X1,X2)", "X0 :- r2(X0,X1,X2)", "no atom of From"},
		{"", "r0 0 1 in r2 0 1", "X0 :- r0(X0,X1); r2(X0,X2,X1)", "X0 :- r0(X0,X1); r2(X0,X2,X1); r2(X0,X1,X3)", "only one place fits"},
		{"", "r0 0 1 in r2 0 1", "X0 :- r0(X0,X1); r2(X0,X1,5)", "X0 :- r0(X0,X1); r2(X0,X1,5)", "anything at the other place"},
		// The order.
		{"", "r0 0 in r1 0, r0 1 in r1 0", "X0 :- r0(X0,X1)", "X0 :- r0(X0,X1); r1(X0); r1(X1)", "the first inclusion first"},
		{"", "r0 1 in r1 0, r0 0 in r1 0", "X0 :- r0(X0,X1)", "X0 :- r0(X0,X1); r1(X1); r1(X0)", "the other one first"},
		{"", "r0 0 in r1 0, r0 1 in r1 0", "X0 :- r0(X0,X1); r0(X2,X3)", "X0 :- r0(X0,X1); r0(X2,X3); r1(X0); r1(X2); r1(X1); r1(X3)", "one inclusion for all atoms, then the other one"},
		{"", "r0 0 in r1 0", "X0 :- r0(X3,X1); r0(X0,X2)", "X0 :- r0(X3,X1); r0(X0,X2); r1(X3); r1(X0)", "the first atom first"},
		{"", "r1 0 in r2 0, r0 1 in r1 0", "X0 :- r0(X0,X1)", "X0 :- r0(X0,X1); r1(X1); r2(X1,X2,X3)", "a new atom demands one for an earlier inclusion"},
		{"", "r0 1 in r1 0, r1 0 in r2 0", "X0 :- r0(X0,X1)", "X0 :- r0(X0,X1); r1(X1); r2(X1,X2,X3)", "and for a later one"},
		{"", "r1 0 in r2 0, r0 0 in r1 0, r0 1 in r1 0", "X0 :- r0(X0,X1)", "X0 :- r0(X0,X1); r1(X0); r2(X0,X2,X3); r1(X1); r2(X1,X4,X5)", "back to the first one of three"},
		{"", "r0 0 in r1 0, r0 0 in r1 0, r0 0 in r1 0", "X0 :- r0(X0,X1)", "X0 :- r0(X0,X1); r1(X0)", "equal inclusions"},
		// A relation in itself.
		{"", "r0 0 1 in r0 1 0", "X0 :- r0(X0,X1)", "X0 :- r0(X0,X1); r0(X1,X0)", "in both directions"},
		{"", "r0 0 1 in r0 1 0", "X0 :- r0(X0,X0)", "X0 :- r0(X0,X0)", "a loop has both"},
		{"", "r2 0 1 2 in r2 1 2 0", "X0 :- r2(X0,X1,X2)", "X0 :- r2(X0,X1,X2); r2(X2,X0,X1); r2(X1,X2,X0)", "in turn"},
		{"", "r2 0 1 2 in r2 1 2 0, r2 0 1 2 in r2 1 0 2", "X0 :- r2(X0,X1,X2)", "X0 :- r2(X0,X1,X2); r2(X2,X0,X1); r2(X1,X2,X0); r2(X1,X0,X2); r2(X2,X1,X0); r2(X0,X2,X1)", "in all orders"},
		{"", "r0 1 in r0 0", "X0 :- r0(X0,X1); r0(X1,X0)", "X0 :- r0(X0,X1); r0(X1,X0)", "a circle"},
		{"", "r0 1 in r0 0", "X0 :- r0(X0,4); r0(4,4)", "X0 :- r0(X0,4); r0(4,4)", "a path into a loop"},
		{"", "r2 0 in r2 1", "X0 :- r2(X0,X0,X1)", "X0 :- r2(X0,X0,X1)", "two places of one atom"},
		{"", "r2 0 in r2 1", "X0 :- r2(X0,X1,X2); r2(X1,X0,X2)", "X0 :- r2(X0,X1,X2); r2(X1,X0,X2)", "two atoms of each other"},
		{"key r0 0", "r0 0 1 in r0 1 0", "X0,X2 :- r0(X0,X1); r0(X1,X2)", "X0,X0 :- r0(X0,X1); r0(X1,X0)", "in both directions with a key"},
		{"key r0 1", "r0 1 in r0 0", "X0 :- r0(X0,X1); r0(X2,X1); r0(X1,X2)", "X0 :- r0(X0,X1); r0(X1,X0)", "a key makes a circle"},
		// With keys.
		{"key r0 0", "r0 1 in r1 0", "X0 :- r0(X0,X1); r0(X0,X2)", "X0 :- r0(X0,X1); r1(X1)", "the keys first"},
		{"key r0 0", "r0 1 in r1 0", "X0 :- r0(X0,X2); r0(X0,7)", "X0 :- r0(X0,7); r1(7)", "a constant by the key"},
		{"key r0 0", "r0 1 in r2 0", "X0 :- r0(X0,X1); r0(X0,X2)", "X0 :- r0(X0,X1); r2(X1,X2,X3)", "a variable that was replaced is new again"},
		{"key r0 0", "r2 0 1 in r0 0 1", "X0 :- r0(X0,X1); r2(X0,X2,X3)", "X0 :- r0(X0,X1); r2(X0,X1,X3)", "the key takes the new atom away"},
		{"key r2 0", "r0 0 1 in r2 0 1", "X5 :- r0(X5,X6); r2(X5,X7,X8)", "X5 :- r0(X5,X6); r2(X5,X6,X0)", "the new variable is the smaller one"},
		{"key r2 0", "r0 0 1 in r2 0 1", "X0 :- r0(X0,X1); r2(X0,4,5)", "X0 :- r0(X0,4); r2(X0,4,5)", "constants for the old and the new variable"},
		{"key r0 0, key r0 1", "r2 0 1 in r0 0 1, r2 2 1 in r0 0 1", "X0,X2 :- r2(X0,X1,X2)", "X0,X0 :- r2(X0,X1,X0); r0(X0,X1)", "two new atoms violate a key"},
		{"key r0 0", "r1 0 in r0 0", "X0 :- r1(X0); r0(X0,X1); r0(X0,3)", "X0 :- r1(X0); r0(X0,3)", "the key alone"},
		// Without inclusions or without keys.
		{"", "", "X0 :- r0(X0,X1); r1(X1)", "X0 :- r0(X0,X1); r1(X1)", "neither"},
		{"", "", "X0 :- r0(X0,X1); r0(X0,X1)", "X0 :- r0(X0,X1)", "an atom twice"},
		{"", "r0 1 in r1 0", "X0 :- r0(X0,X1); r1(X1); r0(X0,X1)", "X0 :- r0(X0,X1); r1(X1)", "an atom twice where the inclusion holds"},
		{"key r0 0", "", "X1,X2 :- r0(X0,X1); r0(X0,X2)", "X1,X1 :- r0(X0,X1)", "only a key"},
		{"", "r0 1 in r1 0", "yes :- r0(X0,X1)", "yes :- r0(X0,X1); r1(X1)", "no head"},
		{"", "r0 1 in r1 0", "8,9 :- r0(X0,X1)", "8,9 :- r0(X0,X1); r1(X1)", "constants only in the head"},
	})
}

func TestChaseBothFails(t *testing.T) {
	s := querySchema()
	for _, c := range []struct {
		keys       string
		inclusions string
		query      string
		note       string
	}{
		{"key r0 0", "", "yes :- r0(X0,1); r0(X0,2)", "no inclusions"},
		{"key r0 0", "r0 1 in r1 0", "yes :- r0(X0,1); r0(X0,2)", "before an atom is added"},
		{"key r0 0", "r0 1 in r0 0", "yes :- r0(X0,1); r0(X0,2)", "where it would not end"},
		{"key r0 0", "r2 0 1 in r0 0 1", "X0 :- r0(X0,1); r2(X0,2,X1)", "by one new atom"},
		{"key r0 0", "r2 0 1 in r0 0 1, r2 0 2 in r0 0 1", "X0 :- r2(X0,1,2)", "by two new atoms"},
		{"key r2 0", "r0 0 1 in r2 0 1", "X0 :- r0(X0,3); r2(X0,4,5)", "by a new atom with a new variable"},
		{"key r0 0", "r0 0 1 in r0 1 0", "X0 :- r0(1,X0); r0(X0,2)", "by a relation in itself"},
		{"key r1 0, key r0 1, key r0 0", "r1 0 in r0 0, r2 2 1 in r0 0 1, r2 0 1 in r0 0 1", "X0 :- r2(1,X0,X1); r2(2,X2,X1); r0(3,X0); r0(4,X2)", "the last key and the last inclusion"},
	} {
		q, keys, l := readEvalQuery(t, c.query), readKeys(t, s, c.keys), readInclusions(t, s, c.inclusions)
		checkNoBoth(t, s, q, keys, l)
		checkBoth(t, s, q, keys, l)
		if _, code := checkBoth(t, s, q, nil, l); code == impl.ChaseFailed {
			t.Errorf("%s: ChaseBoth(%s, %s) fails without keys", c.note, c.query, c.inclusions)
		}
		// The query has no answers, so that it is contained in all whose heads
		// have the same length.
		for _, text := range []string{"yes :- r1(5)", "X0 :- r1(X0)", "5 :- r1(X0)", "X0,X0 :- r1(X0)"} {
			b, want := readEvalQuery(t, text), impl.ContainedNo
			if len(b.Head) == len(q.Head) {
				want = impl.ContainedYes
			}
			if got := checkWithin(t, s, q, b, keys, l); got != want {
				t.Errorf("%s: ContainedWith(%s, %s) = %d, want %d", c.note, c.query, text, got, want)
			}
			if got := checkWithin(t, s, b, q, keys, l); got == impl.ContainedYes {
				t.Errorf("%s: ContainedWith(%s, %s) = %d", c.note, text, c.query, got)
			}
		}
	}
}

// MaxChase atoms are valid, and one more is not added.
func TestChaseBothIsOpen(t *testing.T) {
	checkBothCases(t, impl.ChaseOpen, []bothCase{
		{"", "r0 1 in r0 0", "X0 :- r0(X0,X1)", "X0 :- r0(X0,X1); r0(X1,X2); r0(X2,X3); r0(X3,X4); r0(X4,X5); r0(X5,X6); r0(X6,X7); r0(X7,X8)", "a path forwards"},
		{"", "r0 0 in r0 1", "X0 :- r0(X0,X1)", "X0 :- r0(X0,X1); r0(X2,X0); r0(X3,X2); r0(X4,X3); r0(X5,X4); r0(X6,X5); r0(X7,X6); r0(X8,X7)", "a path backwards"},
		{"", "r0 1 in r0 0", "3 :- r0(1,2)", "3 :- r0(1,2); r0(2,X0); r0(X0,X1); r0(X1,X2); r0(X2,X3); r0(X3,X4); r0(X4,X5); r0(X5,X6)", "a path from constants"},
		{"", "r0 1 in r0 0", "X9 :- r0(X9,X8); r0(X7,X6)", "X9 :- r0(X9,X8); r0(X7,X6); r0(X8,X0); r0(X6,X1); r0(X0,X2); r0(X1,X3); r0(X2,X4); r0(X3,X5)", "two paths"},
		{"key r0 0, key r0 1", "r0 1 in r0 0", "X0 :- r0(X0,X1)", "X0 :- r0(X0,X1); r0(X1,X2); r0(X2,X3); r0(X3,X4); r0(X4,X5); r0(X5,X6); r0(X6,X7); r0(X7,X8)", "keys that hold"},
		{"", "r0 1 in r1 0, r1 0 in r0 0", "X0 :- r0(X0,X1)", "X0 :- r0(X0,X1); r1(X1); r0(X1,X2); r1(X2); r0(X2,X3); r1(X3); r0(X3,X4); r1(X4)", "two inclusions in turn"},
		{"", "r0 1 in r0 0, r0 1 in r1 0", "X0 :- r0(X0,X1); r1(X1)", "X0 :- r0(X0,X1); r1(X1); r0(X1,X2); r0(X2,X3); r0(X3,X4); r0(X4,X5); r0(X5,X6); r0(X6,X7)", "the second one never comes"},
		{"", "r2 2 in r2 0", "X0,X3,X6 :- r2(X0,X1,X2); r2(X3,X4,X5); r2(X6,X7,X8); r2(X9,X10,X11)", "X0,X3,X6 :- r2(X0,X1,X2); r2(X3,X4,X5); r2(X6,X7,X8); r2(X9,X10,X11); r2(X2,X12,X13); r2(X5,X14,X15); r2(X8,X16,X17); r2(X11,X18,X19)", "all variables"},
		{"key r0 0", "r0 1 in r0 0", "X0 :- r0(X0,X1); r0(X0,X2); r1(X2)", "X0 :- r0(X0,X1); r1(X1); r0(X1,X2); r0(X2,X3); r0(X3,X4); r0(X4,X5); r0(X5,X6); r0(X6,X7)", "after the keys"},
		{"", "r0 1 in r0 0", "X0 :- r0(X0,X1); r0(X0,X1); r1(X5); r1(X5)", "X0 :- r0(X0,X1); r1(X5); r0(X1,X2); r0(X2,X3); r0(X3,X4); r0(X4,X6); r0(X6,X7); r0(X7,X8)", "atoms twice do not count"},
		// Two constants would have to be equal only later.
		{"key r0 0", "r0 1 in r0 0, r2 0 1 in r0 0 1", "yes :- r0(X0,1); r2(X0,2,X1)", "yes :- r0(X0,1); r2(X0,2,X1); r0(1,X2); r0(X2,X3); r0(X3,X4); r0(X4,X5); r0(X5,X6); r0(X6,X7)", "before it fails"},
	})
}

// Every number of atoms that are added, around MaxChase: three arguments of each
// atom can each demand an atom, and so the number of atoms with which the chase
// would be done is known.
func TestChaseBothSizes(t *testing.T) {
	s := impl.Schema{Arity: []int{3, 1, 1, 3}}
	for atoms := 1; atoms <= 4; atoms++ {
		q := impl.Query{}
		for n := range atoms {
			q.Body = append(q.Body, impl.Atom{Args: []int{3 * n, 3*n + 1, 3*n + 2}})
		}
		for count := range 4 {
			var l []impl.Inclusion
			for place := range count {
				l = append(l, impl.Inclusion{FromAt: []int{place}, To: 1, ToAt: []int{0}})
			}
			got, code := checkBoth(t, s, q, nil, l)
			if whole := atoms * (count + 1); len(got.Body) != min(whole, 8) || (code == impl.ChaseDone) != (whole <= 8) {
				t.Errorf("%d atoms and %d inclusions: %s, %d", atoms, count, queryText(got), code)
			}
		}
		// Two of the arguments are one variable.
		same := cloneQuery(q)
		same.Body[atoms-1].Args[2] = 3*atoms - 2
		got, code := checkBoth(t, s, same, nil, readInclusions(t, s, "r0 0 in r1 0, r0 1 in r2 0, r0 2 in r2 0"))
		if whole := atoms*4 - 1; len(got.Body) != min(whole, 8) || (code == impl.ChaseDone) != (whole <= 8) {
			t.Errorf("%d atoms with a variable twice: %s, %d", atoms, queryText(got), code)
		}
		// All variables are used when the chase is done.
		got, code = checkBoth(t, s, q, nil, readInclusions(t, s, "r0 1 in r3 1"))
		if code != impl.ChaseDone || len(got.Body) != 2*atoms || len(impl.VarsOf(got)) != 5*atoms {
			t.Errorf("%d atoms with new variables: %s, %d", atoms, queryText(got), code)
		}
	}
}

// A key takes atoms away as fast as the inclusions add them, so that only
// MaxRounds ends the chase. The queries that 39 and 41 new atoms would leave are
// other ones.
func TestChaseBothRounds(t *testing.T) {
	checkBothCases(t, impl.ChaseOpen, []bothCase{
		{"key r2 1", "r2 1 2 in r2 1 0, r2 2 1 in r2 0 2", "yes :- r2(X1,X0,X2)", "yes :- r2(X0,X0,X0); r2(X0,X2,X0); r2(X0,X1,X2)", "one atom to begin with"},
		{"key r2 2", "r2 0 1 in r2 1 2, r2 1 2 in r2 1 0", "yes :- r2(X0,X0,X1)", "yes :- r2(X0,X0,X0); r2(X0,X0,X2)", "after an even number of them"},
		{"key r2 0", "r2 1 2 in r2 2 0, r2 0 1 in r2 2 1", "yes :- r2(X3,X1,X1)", "yes :- r2(X0,X0,X0); r2(X3,X0,X0); r2(X1,X0,X3); r2(X2,X0,X1)", "three new atoms at a time"},
		{"key r2 0", "r1 0 in r2 2, r2 0 2 in r2 0 1, r2 2 0 in r2 2 1", "X1 :- r1(X1)", "X0 :- r1(X0); r2(X0,X0,X0); r2(X2,X0,X0)", "three inclusions"},
		{"key r0 1", "r2 0 1 in r0 1 0, r2 0 2 in r2 0 1", "yes :- r2(X3,X0,X3)", "yes :- r2(X0,X0,X0); r0(X0,X0); r2(X0,X0,X1); r2(X0,X1,X2)", "a key of another relation"},
	})
	// Other atoms stay as they are, and what they map to is found.
	s := querySchema()
	a, keys, l := readEvalQuery(t, "X7 :- r2(X1,X0,X2); r1(X7)"), readKeys(t, s, "key r2 1"), readInclusions(t, s, "r2 1 2 in r2 1 0, r2 2 1 in r2 0 2")
	for text, want := range map[string]int{
		"X0 :- r1(X0); r2(X1,X1,X1)":             impl.ContainedYes,
		"X5 :- r1(X5); r2(X0,X1,X2)":             impl.ContainedYes,
		"X5 :- r1(X5); r0(X0,X1)":                impl.ContainedUnknown,
		"X1 :- r1(X1); r2(X1,X1,X1)":             impl.ContainedUnknown,
		"X5,X5 :- r1(X5); r2(X1,X1,X1)":          impl.ContainedNo,
		"X5 :- r1(X5); r2(X0,X1,X0)":             impl.ContainedYes,
		"X5 :- r1(X5); r2(4,X1,X0)":              impl.ContainedUnknown,
		"X7 :- r1(X7); r2(X1,X0,X2); r2(X2,7,8)": impl.ContainedUnknown,
	} {
		if got := checkWithin(t, s, a, readEvalQuery(t, text), keys, l); got != want {
			t.Errorf("ContainedWith(%s) = %d, want %d", text, got, want)
		}
	}
}

// Every number of inclusions, of keys, of atoms and of elements of the head
// around the limits.
func TestInclusionArgumentLimits(t *testing.T) {
	s := querySchema()
	for inclusions := range 7 {
		for count := range 7 {
			for atoms := range 7 {
				for head := range 6 {
					l := slices.Repeat([]impl.Inclusion{{From: 1, FromAt: []int{0}, ToAt: []int{1}}}, inclusions)
					keys := slices.Repeat([]impl.Key{{Left: []int{1}}}, count)
					q := impl.Query{Head: slices.Repeat([]int{19}, head)}
					for n := range atoms {
						q.Body = append(q.Body, impl.Atom{Rel: 1, Args: []int{19 - n}})
					}
					if inclusions > 3 || count > 4 || atoms < 1 || atoms > 4 || head > 3 {
						checkNoBoth(t, s, q, keys, l)
						checkNotWithin(t, s, q, q, keys, l)
						continue
					}
					want := cloneQuery(q)
					for n := range atoms {
						if inclusions > 0 {
							want.Body = append(want.Body, impl.Atom{Args: []int{n, 19 - n}})
						}
					}
					if got, code := impl.ChaseBoth(s, q, keys, l); code != impl.ChaseDone || !sameQuery(got, want) {
						t.Errorf("ChaseBoth(%s, %v, %s) = %s, %d", queryText(q), keys, inclusionTexts(l), queryText(got), code)
					}
					if got := impl.ContainedWith(s, q, q, keys, l); got != impl.ContainedYes {
						t.Errorf("ContainedWith(%s, %v, %s) = %d", queryText(q), keys, inclusionTexts(l), got)
					}
				}
			}
		}
	}
	checkNoBoth(t, s, readEvalQuery(t, "X0 :- r1(X0)"), nil, make([]impl.Inclusion, 1000))
	checkNoBoth(t, s, readEvalQuery(t, "X0 :- r1(X0)"), nil, slices.Repeat(inclusionsOf(s), 10))
}

// What is wanted is written out here: whether the first query is contained in
// the second one, and the second one in the first one.
func TestContainedWith(t *testing.T) {
	s := querySchema()
	const yes, no, unknown = impl.ContainedYes, impl.ContainedNo, impl.ContainedUnknown
	for _, c := range []struct {
		keys       string
		inclusions string
		a          string
		b          string
		ab         int
		ba         int
		note       string
	}{
		{"", "r0 1 in r1 0", "X0 :- r0(X0,X1)", "X0 :- r0(X0,X1); r1(X1)", yes, yes, "an inclusion"},
		{"", "", "X0 :- r0(X0,X1)", "X0 :- r0(X0,X1); r1(X1)", no, yes, "none"},
		{"", "r0 0 in r1 0", "X0 :- r0(X0,X1)", "X0 :- r0(X0,X1); r1(X1)", no, yes, "the other place"},
		{"", "r2 1 in r1 0", "X0 :- r0(X0,X1)", "X0 :- r0(X0,X1); r1(X1)", no, yes, "another relation"},
		{"", "r2 1 in r1 0, r0 0 in r1 0, r0 1 in r1 0", "X0 :- r0(X0,X1)", "X0 :- r0(X0,X1); r1(X1)", yes, yes, "the last one of three"},
		{"", "r1 0 in r0 0", "X0 :- r1(X0)", "X0 :- r0(X0,X1)", yes, no, "only one direction"},
		{"", "r1 0 in r0 0, r0 0 in r1 0", "X0 :- r1(X0)", "X0 :- r0(X0,X1)", yes, yes, "both directions"},
		{"", "r1 0 in r0 0", "X0 :- r1(X0)", "X0 :- r0(X0,5)", no, no, "not with a constant"},
		{"", "r1 0 in r0 0", "5 :- r1(5)", "5 :- r0(5,X1)", yes, no, "from a constant"},
		{"", "r1 0 in r0 0", "X0 :- r1(X0); r1(5)", "X0 :- r0(X0,X1); r0(5,X2)", yes, no, "for two atoms"},
		{"", "r1 0 in r0 0", "X0 :- r1(X0); r1(5)", "X0 :- r0(X0,X1); r0(5,X1)", no, no, "but not with one variable"},
		{"", "r0 1 in r1 0, r1 0 in r2 2", "X0 :- r0(X0,X1)", "X0 :- r0(X0,X1); r2(X2,X3,X1)", yes, yes, "one after the other"},
		{"", "r0 0 1 in r2 2 0", "X0,X1 :- r0(X0,X1)", "X0,X1 :- r2(X1,X2,X0)", yes, no, "two places"},
		{"", "r0 0 1 in r2 2 0", "X0,X1 :- r0(X0,X1)", "X0,X1 :- r2(X0,X2,X1)", no, no, "in another order"},
		// A relation in itself.
		{"", "r0 0 1 in r0 1 0", "X0,X1 :- r0(X0,X1)", "X0,X1 :- r0(X1,X0)", yes, yes, "in both directions"},
		{"", "r0 0 in r0 0", "X0,X1 :- r0(X0,X1)", "X0,X1 :- r0(X1,X0)", no, no, "at the same place"},
		{"", "r0 1 in r0 0", "X0 :- r0(X0,X1)", "X0 :- r0(X0,X1); r0(X1,X2); r0(X2,X3)", yes, yes, "a path"},
		{"", "r0 1 in r0 0", "X0 :- r0(X0,X1)", "X0 :- r0(X0,X1); r0(X1,X2); r0(X2,X3); r0(X3,X4)", yes, yes, "the longest path"},
		{"", "r0 1 in r0 0", "X0 :- r0(X0,X1)", "X0 :- r0(X0,X0)", unknown, yes, "a loop"},
		{"", "r0 1 in r0 0", "X0 :- r0(X0,X1)", "X0 :- r0(X0,X1); r1(X1)", unknown, yes, "what the path does not have"},
		{"", "r0 1 in r0 0", "X0 :- r0(X0,X0)", "X0 :- r0(X0,5)", no, unknown, "a loop is done"},
		{"", "r0 1 in r0 0", "X1 :- r0(X0,X1)", "X1 :- r0(X1,X0)", yes, unknown, "the first step of a path"},
		{"key r0 1", "r0 1 in r0 0", "X0 :- r0(X0,X1)", "X0 :- r0(X1,X0)", unknown, yes, "what holds on all databases, as they are finite"},
		{"key r0 1", "r0 1 in r0 0", "X0 :- r0(X0,X1)", "X0 :- r1(X0)", unknown, no, "a second query without that relation"},
		// With keys.
		{"key r0 0", "r2 0 1 in r0 0 1", "X1,X2 :- r0(X0,X1); r2(X0,X2,X3)", "X1,X1 :- r0(X0,X1); r2(X0,X1,X2)", yes, yes, "a key and an inclusion"},
		{"", "r2 0 1 in r0 0 1", "X1,X2 :- r0(X0,X1); r2(X0,X2,X3)", "X1,X1 :- r0(X0,X1); r2(X0,X1,X2)", no, yes, "without the key"},
		{"key r0 0", "", "X1,X2 :- r0(X0,X1); r2(X0,X2,X3)", "X1,X1 :- r0(X0,X1); r2(X0,X1,X2)", no, yes, "without the inclusion"},
		{"key r0 1", "r2 0 1 in r0 0 1", "X1,X2 :- r0(X0,X1); r2(X0,X2,X3)", "X1,X1 :- r0(X0,X1); r2(X0,X1,X2)", no, yes, "with another key"},
		{"key r0 0", "r2 1 0 in r0 0 1", "X1,X2 :- r0(X0,X1); r2(X0,X2,X3)", "X1,X1 :- r0(X0,X1); r2(X0,X1,X2)", no, yes, "with another inclusion"},
		{"key r0 0", "r0 0 1 in r0 1 0", "X0,X2 :- r0(X0,X1); r0(X1,X2)", "X0,X0 :- r0(X0,X1)", yes, yes, "a relation in itself with a key"},
		{"", "r0 0 1 in r0 1 0", "X0,X2 :- r0(X0,X1); r0(X1,X2)", "X0,X0 :- r0(X0,X1)", no, yes, "and without it"},
		{"key r0 0", "r1 0 in r0 0", "X0 :- r1(X0); r0(X0,5)", "X0 :- r1(X0); r0(X0,X1); r0(X0,X2)", yes, no, "the inclusion holds already"},
		// No answers.
		{"key r0 0", "r2 0 1 in r0 0 1", "X0 :- r0(X0,1); r2(X0,2,X1)", "X0 :- r1(X0)", yes, no, "no answers"},
		{"key r0 1", "r2 0 1 in r0 0 1", "X0 :- r0(X0,1); r2(X0,2,X1)", "X0 :- r1(X0)", no, no, "answers with another key"},
		{"key r0 0", "r2 0 1 in r0 0 1", "X0 :- r0(X0,1); r2(X0,2,X1)", "7 :- r0(3,4); r2(3,5,X1)", yes, yes, "two queries without answers"},
		// Heads of different lengths.
		{"", "r0 1 in r1 0", "X0 :- r0(X0,X1)", "X0,X0 :- r0(X0,X1)", no, no, "one and two terms"},
		{"", "r0 1 in r0 0", "X0 :- r0(X0,X1)", "yes :- r0(X0,X1)", no, no, "where the chase is open"},
		{"key r0 0", "r2 0 1 in r0 0 1", "X0 :- r0(X0,1); r2(X0,2,X1)", "yes :- r1(X0)", no, no, "where there are no answers"},
	} {
		a, b, keys, l := readEvalQuery(t, c.a), readEvalQuery(t, c.b), readKeys(t, s, c.keys), readInclusions(t, s, c.inclusions)
		if ab, ba := checkWithin(t, s, a, b, keys, l), checkWithin(t, s, b, a, keys, l); ab != c.ab || ba != c.ba {
			t.Errorf("%s: %s and %s under %s and %s: %d and back %d, want %d and %d", c.note, c.a, c.b, c.keys, c.inclusions, ab, ba, c.ab, c.ba)
		}
	}
}

// Heads of all lengths, with a chase that is done, open and fails.
func TestContainedWithHeads(t *testing.T) {
	s := querySchema()
	keys, l := []impl.Key{{Left: []int{0}}}, readInclusions(t, s, "r0 1 in r0 0")
	bodies := [][]impl.Atom{atomsOf(2), {{Args: []int{0, 1}}}, {{Args: []int{0, -1}}, {Args: []int{0, -2}}}}
	other := []int{impl.ContainedYes, impl.ContainedUnknown, impl.ContainedYes}
	for n, body := range bodies {
		for first := range 5 {
			for second := range 5 {
				a := impl.Query{Head: slices.Repeat([]int{-1}, first), Body: body}
				b := impl.Query{Head: slices.Repeat([]int{-1}, second), Body: atomsOf(1)}
				want := impl.ContainedNo
				if first == second && first <= 3 {
					want = other[n]
				}
				if got := impl.ContainedWith(s, a, b, keys, l); got != want {
					t.Errorf("body %d with heads of %d and %d terms: %d, want %d", n, first, second, got, want)
				}
			}
		}
	}
}

// Each argument that is not valid, alone and beside others that are.
func TestInclusionsInvalid(t *testing.T) {
	s := querySchema()
	keys, l := keysOf(s)[:4], inclusionsOf(s)
	for _, q := range validQueries() {
		for _, bad := range invalidSchemas() {
			checkNoBoth(t, bad, q, nil, nil)
			checkNoBoth(t, bad, q, keys[:1], l[:1])
			checkNotWithin(t, bad, q, q, nil, nil)
			checkNotWithin(t, bad, q, q, keys[:1], l[:1])
		}
		for _, x := range invalidInclusions() {
			checkNoBoth(t, s, q, nil, []impl.Inclusion{x})
			checkNotWithin(t, s, q, q, nil, []impl.Inclusion{x})
		}
		for _, k := range invalidKeys() {
			checkNoBoth(t, s, q, []impl.Key{k}, l[:1])
			checkNotWithin(t, s, q, q, []impl.Key{k}, l[:1])
		}
		checkNoBoth(t, s, q, keys, l[:4])
		checkNotWithin(t, s, q, q, keys, l[:4])
		checkNoBoth(t, s, q, keysOf(s)[:5], l[:3])
		checkNotWithin(t, s, q, q, keysOf(s)[:5], l[:3])
		for _, bad := range invalidQueries() {
			checkNotWithin(t, s, q, bad, nil, nil)
			checkNotWithin(t, s, q, bad, keys, l[:3])
		}
	}
	for _, bad := range invalidQueries() {
		checkNoBoth(t, s, bad, nil, nil)
		checkNoBoth(t, s, bad, keys, l[:3])
		checkNotWithin(t, s, bad, bad, nil, nil)
	}
	// Also where the first query has no answers, and where its chase is open.
	for _, text := range []string{"X0 :- r0(X0,1); r0(X0,2)", "X0 :- r0(X0,X1)"} {
		q, valid := readEvalQuery(t, text), readInclusions(t, s, "r0 1 in r0 0")
		if got := impl.ContainedWith(s, q, q, keys, valid); got != impl.ContainedYes {
			t.Errorf("ContainedWith(%s, %s) = %d", text, text, got)
		}
		for n := range 4 {
			for i := range n {
				for _, x := range invalidInclusions() {
					some := slices.Repeat(valid, n)
					some[i] = x
					checkNoBoth(t, s, q, keys, some)
					checkNotWithin(t, s, q, q, keys, some)
				}
			}
		}
		for _, bad := range invalidQueries() {
			bad.Head = []int{-1}
			if !impl.IsQuery(s, bad) {
				checkNotWithin(t, s, q, bad, keys, valid)
			}
		}
		for _, k := range invalidKeys() {
			checkNotWithin(t, s, q, q, []impl.Key{keys[0], k}, valid)
		}
	}
	// Valid for one schema only.
	q, x := impl.Query{Body: atomsOf(1)}, impl.Inclusion{From: 1, FromAt: []int{0}, ToAt: []int{1}}
	for first := 1; first <= 3; first++ {
		for second := 1; second <= 3; second++ {
			other := impl.Schema{Arity: []int{first, second}}
			if valid := first > 1 && second == 1; !valid {
				checkNoBoth(t, other, q, nil, []impl.Inclusion{x})
				checkNotWithin(t, other, q, q, nil, []impl.Inclusion{x})
			} else if got, code := checkBoth(t, other, q, nil, []impl.Inclusion{x}); code != impl.ChaseDone || len(got.Body) != 2 || len(got.Body[1].Args) != first {
				t.Errorf("ChaseBoth for %v = %s, %d", other, queryText(got), code)
			}
		}
	}
}

// A withTally counts the pairs of queries by what ContainedWith says.
type withTally struct {
	yes          int
	byInclusions int // contained, but not under the keys alone
	no           int
	unknown      int
	refuted      int // unknown, and not contained
}

// checkWithAnswers checks containment of all pairs of queries, of which it
// leaves out some, by their answers on those databases on which keys and
// inclusions hold, the finished chases of the queries among them.
func checkWithAnswers(t *testing.T, queries []impl.Query, databases [][]impl.Fact, keys []impl.Key, l []impl.Inclusion, step int) withTally {
	t.Helper()
	s := impl.Schema{Arity: []int{2, 1}}
	var held [][]impl.Fact
	for _, db := range databases {
		if bothHold(db, keys, l) {
			held = append(held, db)
		}
	}
	var sets [][]int
	for _, q := range queries {
		var set []int
		for _, db := range held {
			set = append(set, triedAnswerSet(q, db))
		}
		sets = append(sets, set)
	}
	var counts withTally
	for i, a := range queries {
		chased, code := checkBoth(t, s, a, keys, l)
		facts, head := frozen(chased)
		for j := i % step; j < len(queries); j += step {
			b := queries[j]
			inside := len(a.Head) == len(b.Head)
			for n := range held {
				inside = inside && sets[i][n]&^sets[j][n] == 0
			}
			got := impl.ContainedWith(s, a, b, keys, l)
			refuted := len(a.Head) != len(b.Head) || code == impl.ChaseDone && !impl.IsAnswer(s, b, facts, head)
			switch {
			case got == impl.ContainedYes && inside && !refuted:
				counts.yes++
				if !impl.ContainedUnder(s, a, b, keys) {
					counts.byInclusions++
				}
			case got == impl.ContainedNo && refuted:
				counts.no++
			case got == impl.ContainedUnknown && code == impl.ChaseOpen && !refuted:
				counts.unknown++
				if !inside {
					counts.refuted++
				}
			default:
				t.Fatalf("ContainedWith(%s, %s, %v, %s) = %d, and inside is %v, refuted %v", queryText(a), queryText(b), keys, inclusionTexts(l), got, inside, refuted)
			}
		}
	}
	return counts
}

// Promise 6: a query that is contained in another one under keys and inclusions
// has no other answers on all small databases in which they hold. If it is not
// contained, it has an answer on its finished chase that the other one does not
// have, and keys and inclusions hold there. Where the chase is done, nothing is
// unknown. The queries and databases are those of chapter 13.
func TestContainedWithByAnswers(t *testing.T) {
	s := impl.Schema{Arity: []int{2, 1}}
	triples := inFirstNames(tripleQueries())
	pairs := slices.Concat(inFirstNames(shortQueries([]int{0, -1, -2}, 2, 1)), inFirstNames(shortQueries([]int{0, 1, -1}, 2, 1)))
	for _, c := range []struct {
		keys       string
		inclusions string
		open       bool // whether a chase is open
	}{
		{"", "r0 1 in r1 0", false},
		{"", "r1 0 in r0 0", false},
		{"", "r0 0 1 in r0 1 0", false},
		{"", "r0 1 in r0 0", true},
		{"", "r0 0 in r1 0, r0 1 in r1 0, r1 0 in r0 1", true},
		{"key r0 0", "r0 0 1 in r0 1 0", false},
		{"key r0 1", "r1 0 in r0 0, r0 1 in r1 0", true},
		{"key r0 0, key r0 1", "r0 1 in r0 0, r0 0 in r0 1", true},
	} {
		keys, l := readKeys(t, s, c.keys), readInclusions(t, s, c.inclusions)
		counts := checkWithAnswers(t, triples, tripleDatabases(), keys, l, 5)
		more := checkWithAnswers(t, pairs, pairsOfFacts(), keys, l, 7)
		if min(counts.yes, counts.no) < 1000 || min(more.yes, more.no) < 3000 || min(counts.byInclusions, more.byInclusions) < 20 {
			t.Errorf("%s and %s: only %v and %v", c.keys, c.inclusions, counts, more)
		}
		if c.open != (counts.unknown > 0) || c.open != (more.unknown > 0) || c.open && max(counts.refuted, more.refuted) < 1000 {
			t.Errorf("%s and %s: %v and %v", c.keys, c.inclusions, counts, more)
		}
	}
}

// keptBoth removes facts until keys and inclusions hold.
func keptBoth(db []impl.Fact, keys []impl.Key, l []impl.Inclusion) []impl.Fact {
	db = keptFacts(db, keys)
	for {
		n := slices.IndexFunc(l, func(x impl.Inclusion) bool { return triedUnfitted(db, x) >= 0 })
		if n < 0 {
			return db
		}
		i := triedUnfitted(db, l[n])
		db = slices.Delete(db, i, i+1)
	}
}

// chosenPart returns up to four atoms of a query with other names, which is not
// valid if they lack a variable of the head.
func chosenPart(r *rand.Rand, q impl.Query) impl.Query {
	part := imageOfQuery(r.Perm(20), q)
	r.Shuffle(len(part.Body), func(i, j int) { part.Body[i], part.Body[j] = part.Body[j], part.Body[i] })
	part.Body = part.Body[:min(len(part.Body), 1+r.Intn(4))]
	return part
}

// Promise 6: queries of up to four atoms under up to four keys and up to three
// inclusions, and on databases of up to 24 facts on which these hold.
func TestContainedWithOfChosenQueries(t *testing.T) {
	s := querySchema()
	r := rand.New(rand.NewSource(1414))
	codes, results := map[int]int{}, map[int]int{}
	failed, byBoth, answers := 0, 0, 0
	for range 4000 {
		a, keys, l := chosenViolations(r), chosenKeys(r), chosenInclusions(r)
		chased, code := checkBoth(t, s, a, keys, l)
		codes[code]++
		if under, ok := impl.ChaseKeys(s, a, keys); ok && code == impl.ChaseFailed {
			failed++
			chased = under
		}
		b := chosenImage(r, a)
		if r.Intn(3) > 0 && len(chased.Body) > 0 {
			b = chosenPart(r, chased)
		}
		if !impl.IsQuery(s, b) {
			checkNotWithin(t, s, a, b, keys, l)
			continue
		}
		ab, ba := checkWithin(t, s, a, b, keys, l), checkWithin(t, s, b, a, keys, l)
		results[ab]++
		results[ba]++
		if ab == impl.ContainedYes && code == impl.ChaseDone && !impl.ContainedUnder(s, a, b, keys) && impl.ContainedWith(s, a, b, nil, l) != impl.ContainedYes {
			byBoth++
		}
		for range 2 {
			db := keptBoth(chosenFacts(r), keys, l)
			if ab == impl.ContainedYes {
				answers += checkAnswersInside(t, s, a, b, keys, db)
			}
			if ba == impl.ContainedYes {
				answers += checkAnswersInside(t, s, b, a, keys, db)
			}
		}
	}
	if min(codes[impl.ChaseDone], codes[impl.ChaseFailed], codes[impl.ChaseOpen]) < 200 || min(results[impl.ContainedYes], results[impl.ContainedNo], results[impl.ContainedUnknown]) < 300 {
		t.Errorf("only %v chases and %v results", codes, results)
	}
	if failed < 20 || byBoth < 20 || answers < 1000 {
		t.Errorf("only %d failed by an inclusion, %d contained by keys and inclusions together and %d answers", failed, byBoth, answers)
	}
}

// Without inclusions, the chase is that of the keys, and without keys as well,
// containment is that of chapter 8.
func TestNoInclusions(t *testing.T) {
	s := querySchema()
	r := rand.New(rand.NewSource(140))
	for range 2000 {
		a, keys := chosenViolations(r), chosenKeys(r)
		b := chosenImage(r, a)
		for _, none := range [][]impl.Inclusion{nil, {}} {
			want, ok := impl.ChaseKeys(s, a, keys)
			got, code := impl.ChaseBoth(s, a, keys, none)
			if !sameQuery(got, want) || ok != (code == impl.ChaseDone) || ok == (code == impl.ChaseFailed) {
				t.Fatalf("ChaseBoth(%s, %v) without inclusions = %v, %d", queryText(a), keys, got, code)
			}
			if got := impl.ContainedWith(s, a, b, keys, none); (got == impl.ContainedYes) != impl.ContainedUnder(s, a, b, keys) || got == impl.ContainedUnknown {
				t.Fatalf("ContainedWith(%s, %s, %v) without inclusions = %d", queryText(a), queryText(b), keys, got)
			}
			if got := impl.ContainedWith(s, a, b, nil, none); (got == impl.ContainedYes) != impl.IsContained(s, a, b) || got == impl.ContainedUnknown {
				t.Fatalf("ContainedWith(%s, %s) without keys and inclusions = %d", queryText(a), queryText(b), got)
			}
		}
	}
}

func TestFormatInclusion(t *testing.T) {
	for want, x := range map[string]impl.Inclusion{
		"r0 1 in r1 0":         {FromAt: []int{1}, To: 1, ToAt: []int{0}},
		"r0 0 in r0 0":         {FromAt: []int{0}, ToAt: []int{0}},
		"r0 0 1 in r0 1 0":     {FromAt: []int{0, 1}, ToAt: []int{1, 0}},
		"r3 2 in r2 1":         {From: 3, FromAt: []int{2}, To: 2, ToAt: []int{1}},
		"r2 2 0 1 in r3 1 2 0": {From: 2, FromAt: []int{2, 0, 1}, To: 3, ToAt: []int{1, 2, 0}},
	} {
		if got := impl.FormatInclusion(x); got != want {
			t.Errorf("FormatInclusion(%v) = %q, want %q", x, got, want)
		}
	}
	// Relations around the limits with every two lists around them.
	lists := shortLists([]int{-1, 0, 1, 2, 3}, 3)
	relations := []int{math.MinInt, -1, 0, 1, 3, 4, math.MaxInt}
	for _, from := range relations {
		for _, to := range relations {
			there := from >= 0 && from <= 3 && to >= 0 && to <= 3
			for _, fromAt := range lists {
				first := there && isPlaceList(fromAt, 3)
				for _, toAt := range lists {
					x, want := impl.Inclusion{From: from, FromAt: fromAt, To: to, ToAt: toAt}, ""
					if first && len(fromAt) == len(toAt) && isPlaceList(toAt, 3) {
						want = inclusionText(x)
					}
					if got := impl.FormatInclusion(x); got != want {
						t.Fatalf("FormatInclusion(%v) = %q, want %q", x, got, want)
					}
				}
			}
		}
	}
	for _, places := range [][]int{nil, {}, {math.MaxInt}, {math.MinInt}, {0, 1, 2, 0}, {0, 1, 2, 3}, make([]int, 1000)} {
		for _, x := range []impl.Inclusion{{FromAt: places, ToAt: places}, {FromAt: places, ToAt: []int{0}}, {FromAt: []int{0}, ToAt: places}} {
			if got := impl.FormatInclusion(x); got != "" {
				t.Errorf("FormatInclusion(%v) = %q", x, got)
			}
		}
	}
	// All inclusions of a schema have different formats.
	var texts []string
	for _, x := range inclusionsOf(querySchema()) {
		texts = append(texts, impl.FormatInclusion(x))
	}
	if n := len(texts); n < 100 || differentTexts(texts) != n {
		t.Errorf("%d inclusions have %d formats", n, differentTexts(texts))
	}
}

// The arguments stay as they are, with the memory behind them.
func TestInclusionsLeaveArgumentsAlone(t *testing.T) {
	s := impl.Schema{Arity: []int{2, 1, 9}[:2]}
	terms := []int{1, 0, 1, 2, 1, -1, -2, 9}
	atoms := []impl.Atom{{Args: terms[:2]}, {Args: terms[2:4]}, {Rel: 1, Args: terms[3:4]}, {Args: terms[4:6]}, {Rel: 9}}
	places := []int{0, 1, 0, 9, 9}
	keys := []impl.Key{{Left: places[:1]}, {Rel: 1, Left: places[:1]}, {Rel: 9}}
	l := []impl.Inclusion{{FromAt: places[1:2], To: 1, ToAt: places[:1]}, {FromAt: places[:2], ToAt: places[1:3]}, {FromAt: places[1:2], ToAt: places[2:3]}, {From: 9}}
	values := []int{1, 1, 2, 1, 9}
	facts := []impl.Fact{{Args: values[2:4]}, {Args: values[:2]}, {Rel: 1, Args: values[:1]}, {Args: values[1:3]}, {Rel: 9, Args: values[4:]}}
	wantFacts, wantTexts, wantBody := cloneFacts(facts), inclusionTexts(l), queryText(impl.Query{Body: atoms})
	queries := []impl.Query{
		{Head: terms[3:4], Body: atoms[:3]},
		{Head: terms[:1], Body: atoms[:1]},
		{Head: terms[:3], Body: atoms[:4]},
		{Head: terms[6:7], Body: []impl.Atom{atoms[3], {Args: []int{terms[4], terms[6]}}}},
		{Head: terms[:5], Body: atoms},
	}
	for range 3 {
		for n := range len(l) + 1 {
			for m := range len(facts) + 1 {
				for _, x := range l[:n] {
					impl.IsInclusion(s, x)
					impl.HoldsInclusion(facts[:m], x)
					impl.FormatInclusion(x)
				}
			}
			for m := range len(keys) + 1 {
				for _, a := range queries {
					impl.ChaseBoth(s, a, keys[:m], l[:n])
					for _, b := range queries {
						impl.ContainedWith(s, a, b, keys[:m], l[:n])
					}
				}
			}
		}
		if !slices.Equal(terms, []int{1, 0, 1, 2, 1, -1, -2, 9}) || !slices.Equal(places, []int{0, 1, 0, 9, 9}) || !slices.Equal(values, []int{1, 1, 2, 1, 9}) || !slices.Equal(s.Arity[:3], []int{2, 1, 9}) {
			t.Fatalf("the arguments are now %v, %v, %v, %v", terms, places, values, s)
		}
		if !sameFacts(facts, wantFacts) || inclusionTexts(l) != wantTexts || queryText(impl.Query{Body: atoms}) != wantBody || len(keys[0].Left) != 1 || keys[2].Rel != 9 {
			t.Fatalf("the arguments are now %v, %v, %v, %v", facts, l, atoms, keys)
		}
	}
}

// A result is new memory, and no two of its slices share any, whether or not
// anything was added or replaced.
func TestInclusionResultsShareNoMemory(t *testing.T) {
	s := querySchema()
	shared := []int{0, 0, 0, 1, 1, 2, 0}
	two := []impl.Atom{{Args: shared[:2]}, {Args: shared[2:4]}, {Args: shared[4:6]}, {Rel: 1, Args: shared[3:4]}}
	codes := map[int]int{}
	for _, q := range []impl.Query{
		{Head: shared[:1], Body: two},
		{Head: shared[:3], Body: two[:2]},
		{Head: shared[3:6], Body: two[2:]},
		{Head: shared[:2], Body: []impl.Atom{two[0], two[0], two[0]}},
		{Head: shared[:0], Body: two[:1]},
	} {
		want := cloneQuery(q)
		for _, keys := range [][]impl.Key{nil, {{Left: []int{0}}}} {
			for _, texts := range []string{"", "r0 0 in r0 0", "r0 1 in r1 0", "r0 1 in r0 0", "r1 0 in r2 1, r0 0 1 in r0 1 0", "r0 1 in r1 0, r1 0 in r2 1, r2 0 in r0 1"} {
				l := readInclusions(t, s, texts)
				result, code := impl.ChaseBoth(s, q, keys, l)
				codes[code]++
				checkOwnQuery(t, result)
				if inclusionTexts(l) != texts {
					t.Fatalf("a change of the result changed the inclusions to %v", l)
				}
			}
		}
		if !sameQuery(q, want) {
			t.Fatalf("a change of the result changed the query to %v", q)
		}
	}
	if codes[impl.ChaseDone] < 20 || codes[impl.ChaseOpen] < 8 || codes[impl.ChaseFailed] > 0 {
		t.Errorf("%v chases", codes)
	}
}

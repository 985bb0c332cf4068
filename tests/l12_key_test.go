package tests

import (
	"math"
	"math/rand"
	"regexp"
	"slices"
	"strconv"
	"strings"
	"testing"

	"loop.example/g01985/impl"
)

func sameKey(a impl.Key, b impl.Key) bool {
	return a.Rel == b.Rel && slices.Equal(a.Left, b.Left)
}

func sameKeys(a []impl.Key, b []impl.Key) bool {
	return slices.EqualFunc(a, b, sameKey)
}

func cloneKeys(keys []impl.Key) []impl.Key {
	var all []impl.Key
	for _, k := range keys {
		all = append(all, impl.Key{Rel: k.Rel, Left: slices.Clone(k.Left)})
	}
	return all
}

// keyText builds the format of a key from the words of the specification.
func keyText(k impl.Key) string {
	text := "key r" + strconv.Itoa(k.Rel)
	for _, place := range k.Left {
		text += " " + strconv.Itoa(place)
	}
	return text
}

// placesOf returns the lists of places that a key of a relation with this
// number of arguments can have.
func placesOf(arity int) [][]int {
	return [][][]int{
		1: {{0}},
		2: {{0}, {1}, {0, 1}},
		3: {{0}, {1}, {2}, {0, 1}, {0, 2}, {1, 2}, {0, 1, 2}},
	}[arity]
}

// keysOf returns all valid keys of a schema.
func keysOf(s impl.Schema) []impl.Key {
	var all []impl.Key
	for rel, arity := range s.Arity {
		for _, left := range placesOf(arity) {
			all = append(all, impl.Key{Rel: rel, Left: left})
		}
	}
	return all
}

// invalidKeys are not valid for querySchema.
func invalidKeys() []impl.Key {
	return []impl.Key{
		{},
		{Left: []int{}},
		{Rel: 1},
		{Left: []int{-1}},
		{Left: []int{-1, 0}},
		{Left: []int{0, -1}},
		{Left: []int{2}},
		{Left: []int{0, 2}},
		{Left: []int{1, 0}},
		{Left: []int{0, 0}},
		{Left: []int{0, 1, 1}},
		{Left: []int{0, 1, 2}},
		{Left: []int{math.MaxInt}},
		{Left: []int{math.MinInt}},
		{Left: []int{math.MinInt, 0}},
		{Rel: 1, Left: []int{1}},
		{Rel: 1, Left: []int{0, 1}},
		{Rel: 2, Left: []int{3}},
		{Rel: 2, Left: []int{2, 3}},
		{Rel: 2, Left: []int{0, 1, 2, 3}},
		{Rel: 2, Left: []int{0, 2, 1}},
		{Rel: 2, Left: []int{1, 0, 2}},
		{Rel: 2, Left: []int{0, 1, 1}},
		{Rel: 2, Left: []int{2, 2, 2}},
		{Rel: 2, Left: make([]int, 1000)},
		{Rel: 3, Left: []int{0}},
		{Rel: 4, Left: []int{0}},
		{Rel: -1, Left: []int{0}},
		{Rel: math.MaxInt, Left: []int{0}},
		{Rel: math.MinInt, Left: []int{0}},
	}
}

func readKey(t *testing.T, s impl.Schema, text string) impl.Key {
	t.Helper()
	k, ok := impl.ParseKey(s, text)
	if !ok || keyText(k) != text {
		t.Fatalf("ParseKey(%q) = %v, %v", text, k, ok)
	}
	return k
}

func TestKeyLimits(t *testing.T) {
	if impl.MaxKeys != 4 {
		t.Errorf("MaxKeys = %d", impl.MaxKeys)
	}
}

// Every relation around the limits of every schema, with every list of places
// around its number of arguments.
func TestIsKey(t *testing.T) {
	lists := shortLists([]int{-1, 0, 1, 2, 3}, 4)
	for _, arity := range shortLists([]int{1, 2, 3}, 4)[1:] {
		s := impl.Schema{Arity: arity}
		for rel := -2; rel <= 6; rel++ {
			for _, left := range lists {
				want := rel >= 0 && rel < len(arity) && slices.ContainsFunc(placesOf(arity[rel]), func(l []int) bool { return slices.Equal(l, left) })
				if got := impl.IsKey(s, impl.Key{Rel: rel, Left: left}); got != want {
					t.Fatalf("IsKey(%v, %d, %v) = %v", s, rel, left, got)
				}
			}
		}
	}
}

func TestIsKeyInvalid(t *testing.T) {
	for _, k := range keysOf(querySchema()) {
		if !impl.IsKey(querySchema(), k) {
			t.Errorf("IsKey(%v) = false", k)
		}
		for _, bad := range invalidSchemas() {
			if impl.IsKey(bad, k) {
				t.Errorf("IsKey(%v) for the schema %v = true", k, bad)
			}
		}
	}
	for _, k := range invalidKeys() {
		for _, s := range append(invalidSchemas(), querySchema()) {
			if impl.IsKey(s, k) {
				t.Errorf("IsKey(%v) for the schema %v = true", k, s)
			}
		}
	}
}

// Every number of keys, which may be equal, and one that is not valid at every
// position.
func TestAreKeys(t *testing.T) {
	s := querySchema()
	all := keysOf(s)
	for n := range len(all) + 1 {
		if got := impl.AreKeys(s, all[:n]); got != (n <= 4) {
			t.Errorf("AreKeys of %d keys = %v", n, got)
		}
	}
	for n := range 20 {
		same := slices.Repeat(all[4:5], n)
		if got := impl.AreKeys(s, same); got != (n <= 4) {
			t.Errorf("AreKeys of %d equal keys = %v", n, got)
		}
		for i := range n {
			for _, k := range invalidKeys() {
				keys := slices.Clone(same)
				keys[i] = k
				if impl.AreKeys(s, keys) {
					t.Errorf("AreKeys with %v as one of %d keys = true", k, n)
				}
			}
		}
	}
	if !impl.AreKeys(s, nil) || !impl.AreKeys(s, []impl.Key{}) || impl.AreKeys(s, make([]impl.Key, 1000)) {
		t.Error("AreKeys of no or many keys is wrong")
	}
	for _, bad := range invalidSchemas() {
		if impl.AreKeys(bad, nil) || impl.AreKeys(bad, all[:1]) || impl.AreKeys(bad, all) {
			t.Errorf("AreKeys for the schema %v = true", bad)
		}
	}
}

// projected writes down what a fact has at the places. It has nothing to write
// if the fact lacks one of them.
func projected(f impl.Fact, places []int) (string, bool) {
	text := ""
	for _, place := range places {
		if place < 0 || place > len(f.Args)-1 {
			return "", false
		}
		text += strconv.Itoa(f.Args[place]) + ","
	}
	return text, true
}

// broken reports whether two facts violate a key.
func broken(f impl.Fact, g impl.Fact, k impl.Key) bool {
	a, inF := projected(f, k.Left)
	b, inG := projected(g, k.Left)
	return f.Rel == k.Rel && g.Rel == k.Rel && inF && inG && a == b && factText(f) != factText(g)
}

// triedViolation looks at all violations and returns the least one.
func triedViolation(db []impl.Fact, keys []impl.Key) []int {
	least := []int{-1, -1, -1}
	for j := range db {
		for i := range j {
			for n, k := range keys {
				found := []int{n, i, j}
				if broken(db[i], db[j], k) && (least[0] < 0 || slices.Compare(found, least) < 0) {
					least = found
				}
			}
		}
	}
	return least
}

// checkViolation compares FirstViolation with the least violation, and HoldsKey
// with that of each key alone. It returns the least violation.
func checkViolation(t *testing.T, db []impl.Fact, keys []impl.Key) []int {
	t.Helper()
	want := triedViolation(db, keys)
	if n, i, j := impl.FirstViolation(db, keys); !slices.Equal([]int{n, i, j}, want) {
		t.Fatalf("FirstViolation(%v, %v) = %d, %d, %d, want %v", db, keys, n, i, j, want)
	}
	for n, k := range keys {
		alone := triedViolation(db, keys[n:n+1])
		if got := impl.HoldsKey(db, k); got != (alone[0] < 0) {
			t.Fatalf("HoldsKey(%v, %v) = %v", db, k, got)
		}
	}
	return want
}

// A violationCase has keys and facts in words, and the violation.
type violationCase struct {
	keys  string
	facts string
	want  []int
}

func (c violationCase) check(t *testing.T) {
	t.Helper()
	s := querySchema()
	var keys []impl.Key
	for _, text := range strings.Split(c.keys, ", ") {
		keys = append(keys, readKey(t, s, text))
	}
	db := evalFacts(t, strings.Fields(c.facts)...)
	if !impl.IsDatabase(s, db) {
		t.Fatalf("%s is no database", c.facts)
	}
	if got := checkViolation(t, db, keys); !slices.Equal(got, c.want) {
		t.Errorf("the violation of %s in %s is %v, want %v", c.keys, c.facts, got, c.want)
	}
}

func TestFirstViolation(t *testing.T) {
	none := []int{-1, -1, -1}
	for _, c := range []violationCase{
		{"key r0 0", "r0(1,2) r0(1,3) r0(2,2) r1(1)", []int{0, 0, 1}},
		{"key r0 1", "r0(1,2) r0(1,3) r0(2,2) r1(1)", []int{0, 0, 2}},
		{"key r0 0 1, key r0 1", "r0(1,2) r0(1,3) r0(2,2) r1(1)", []int{1, 0, 2}},
		{"key r0 1, key r0 0", "r0(1,2) r0(1,3) r0(2,2) r1(1)", []int{0, 0, 2}},
		{"key r0 0, key r0 0", "r0(1,2) r0(1,3)", []int{0, 0, 1}},
		{"key r0 0", "", none},
		{"key r0 0", "r0(1,2)", none},
		{"key r0 0", "r0(1,1) r0(2,1) r0(3,1)", none},
		{"key r0 1", "r0(1,1) r0(2,1) r0(3,1)", []int{0, 0, 1}},
		// The facts that agree need not be neighbours, and the least first one
		// decides, however far the second one is.
		{"key r0 1", "r0(1,1) r0(2,2) r0(3,3) r0(4,2) r0(5,1)", []int{0, 0, 4}},
		{"key r0 1", "r0(1,3) r0(2,1) r0(3,2) r0(4,2) r0(5,1)", []int{0, 1, 4}},
		{"key r0 1", "r0(1,1) r0(2,2) r0(3,1) r0(4,1)", []int{0, 0, 2}},
		// The order of the keys comes before that of the facts.
		{"key r0 1, key r0 0", "r0(1,1) r0(1,2) r0(2,3) r0(3,3)", []int{0, 2, 3}},
		{"key r1 0, key r2 0, key r0 0", "r0(1,1) r0(1,2) r1(1) r1(2) r2(1,1,1) r2(1,1,2)", []int{1, 4, 5}},
		// Facts of other relations do not count, but their indices do.
		{"key r1 0", "r0(1,1) r0(1,2) r1(1) r2(1,1,1)", none},
		{"key r2 0", "r0(1,1) r0(1,2) r1(1) r2(1,1,1)", none},
		{"key r2 0", "r0(1,1) r1(1) r2(1,1,1) r2(2,1,1)", none},
		{"key r2 1", "r0(1,1) r1(1) r2(1,1,1) r2(2,1,1)", []int{0, 2, 3}},
		{"key r2 0 1", "r2(1,1,1) r2(1,2,1) r2(2,1,1) r2(2,1,2)", []int{0, 2, 3}},
		{"key r2 0 2", "r2(1,1,1) r2(1,2,1) r2(2,1,1) r2(2,1,2)", []int{0, 0, 1}},
		{"key r2 1 2", "r2(1,1,1) r2(1,2,1) r2(2,1,1) r2(2,1,2)", []int{0, 0, 2}},
		{"key r2 1", "r2(1,1,1) r2(1,2,1) r2(2,3,1) r2(2,4,2)", none},
		// What one key allows, another one may forbid.
		{"key r0 0 1, key r1 0, key r2 0 1 2, key r2 2", "r0(0,0) r0(0,99) r1(99) r2(1,2,0) r2(9,9,0)", []int{3, 3, 4}},
	} {
		c.check(t)
	}
	db := manyFacts(24)
	for _, keys := range [][]impl.Key{nil, {}} {
		if n, i, j := impl.FirstViolation(db, keys); n != -1 || i != -1 || j != -1 {
			t.Errorf("FirstViolation of no keys = %d, %d, %d", n, i, j)
		}
	}
}

// Keys of all places: no two facts of a database agree there and differ.
func TestKeyOfAllPlaces(t *testing.T) {
	s := querySchema()
	whole := []impl.Key{{Left: []int{0, 1}}, {Rel: 1, Left: []int{0}}, {Rel: 2, Left: []int{0, 1, 2}}}
	if !impl.AreKeys(s, whole) {
		t.Error("AreKeys of keys of all places = false")
	}
	for n, text := range []string{"key r0 0 1", "key r1 0", "key r2 0 1 2"} {
		if got := impl.FormatKey(whole[n]); got != text || !sameKey(readKey(t, s, text), whole[n]) {
			t.Errorf("FormatKey(%v) = %q", whole[n], got)
		}
	}
	r := rand.New(rand.NewSource(12))
	databases := databasesOf(append(binaryFacts(), evalFacts(t, "r2(0,0,0)", "r2(0,0,1)", "r2(1,0,0)")...))
	for range 500 {
		databases = append(databases, chosenFacts(r))
	}
	for _, db := range append(databases, manyFacts(24)) {
		if got := checkViolation(t, db, whole); got[0] != -1 {
			t.Fatalf("%v violates a key of all places: %v", db, got)
		}
	}
	// The facts may be any: equal ones never violate a key, and those that have
	// more arguments than the key has places may.
	f := impl.Fact{Args: []int{4, 5}}
	for _, c := range []struct {
		db   []impl.Fact
		want []int
	}{
		{[]impl.Fact{f, f, f}, []int{-1, -1, -1}},
		{[]impl.Fact{f, {Args: []int{4, 6}}, f}, []int{-1, -1, -1}},
		{[]impl.Fact{f, {Args: []int{4, 5, 6}}, f}, []int{0, 0, 1}},
		{[]impl.Fact{f, f, {Args: []int{4, 5, 0}}}, []int{0, 0, 2}},
		{[]impl.Fact{f, {Args: []int{4}}, {}}, []int{-1, -1, -1}},
	} {
		if got := checkViolation(t, c.db, whole[:1]); !slices.Equal(got, c.want) {
			t.Errorf("the violation in %v is %v, want %v", c.db, got, c.want)
		}
	}
}

// differentTexts returns how many different texts there are.
func differentTexts(texts []string) int {
	slices.Sort(texts)
	return len(slices.Compact(texts))
}

// Promise 6 for keys: on all databases of up to nine facts, a key holds exactly
// where the facts of its relation differ at its places, and the least violation
// of up to three keys is found.
func TestKeysOnAllSmallDatabases(t *testing.T) {
	s := querySchema()
	keys := keysOf(s)
	var facts []impl.Fact
	for _, text := range strings.Fields("r0(0,0) r0(0,1) r0(1,0) r1(0) r1(1) r2(0,0,0) r2(0,0,1) r2(0,1,0) r2(1,0,0)") {
		facts = append(facts, evalFacts(t, text)...)
	}
	violated := 0
	for _, db := range databasesOf(facts) {
		if !impl.IsDatabase(s, db) {
			t.Fatalf("%v is no database", db)
		}
		for _, k := range keys {
			var parts []string
			for _, f := range db {
				if part, ok := projected(f, k.Left); ok && f.Rel == k.Rel {
					parts = append(parts, part)
				}
			}
			count := len(parts)
			if got := impl.HoldsKey(db, k); got != (differentTexts(parts) == count) {
				t.Fatalf("HoldsKey(%v, %v) = %v", db, k, got)
			}
		}
		for _, list := range shortLists([]int{0, 1, 2, 3, 4, 6, 8, 10}, 3) {
			var some []impl.Key
			for _, n := range list {
				some = append(some, keys[n])
			}
			if checkViolation(t, db, some)[0] >= 0 {
				violated++
			}
		}
	}
	if violated < 100000 {
		t.Errorf("only %d violations", violated)
	}
}

// Facts and keys that need not be valid, in any order and any number.
func TestFirstViolationOfAnyFacts(t *testing.T) {
	facts := []impl.Fact{
		{Args: []int{1, 2}}, {Args: []int{1, 3}}, {Args: []int{1}}, {Args: []int{1, 2, 3, 4, 5}}, {}, {Args: []int{-7, 2}}, {Args: []int{math.MinInt, math.MaxInt}},
		{Rel: -1, Args: []int{1, 2}}, {Rel: -1, Args: []int{1, 5}}, {Rel: math.MaxInt, Args: []int{1}},
	}
	keys := slices.DeleteFunc(invalidKeys(), func(k impl.Key) bool { return len(k.Left) > 10 })
	keys = append(keys, impl.Key{Left: []int{0}}, impl.Key{Left: []int{1}}, impl.Key{Left: []int{0, 1}}, impl.Key{Left: []int{4}}, impl.Key{Left: []int{1, 1, 1, 1, 1}}, impl.Key{Left: []int{4, 0}}, impl.Key{Rel: -1, Left: []int{1}}, impl.Key{Rel: -1}, impl.Key{Rel: math.MaxInt})
	violated := 0
	for _, list := range shortLists([]int{0, 1, 2, 3, 4, 5, 6, 7, 8, 9}, 3) {
		var db []impl.Fact
		for _, n := range list {
			db = append(db, facts[n])
		}
		for _, k := range keys {
			if checkViolation(t, db, []impl.Key{k})[0] == 0 {
				violated++
			}
		}
		checkViolation(t, db, keys)
		slices.Reverse(db)
		checkViolation(t, db, keys)
	}
	if violated < 1000 {
		t.Errorf("only %d violations", violated)
	}
}

// A fact that lacks a place agrees with no other one there, and without places
// all facts of the relation agree.
func TestFirstViolationPlaces(t *testing.T) {
	short, long := impl.Fact{Args: []int{1}}, impl.Fact{Args: []int{1, 2}}
	for _, c := range []struct {
		left  []int
		holds bool
	}{
		{[]int{0}, false}, {[]int{0, 0}, false}, {nil, false}, {[]int{}, false},
		{[]int{1}, true}, {[]int{0, 1}, true}, {[]int{1, 0}, true}, {[]int{2}, true}, {[]int{-1}, true}, {[]int{0, -1}, true}, {[]int{math.MaxInt}, true}, {[]int{math.MinInt}, true},
	} {
		k := impl.Key{Left: c.left}
		for _, db := range [][]impl.Fact{{short, long}, {long, short}} {
			checkViolation(t, db, []impl.Key{k})
			if got := impl.HoldsKey(db, k); got != c.holds {
				t.Errorf("HoldsKey(%v, %v) = %v", db, k, got)
			}
		}
		other := impl.Key{Rel: 1, Left: c.left}
		if !impl.HoldsKey([]impl.Fact{short, long}, other) || !impl.HoldsKey([]impl.Fact{{Rel: 1, Args: []int{1}}, short, {Rel: 2, Args: []int{1, 2}}}, other) {
			t.Errorf("%v does not hold although one fact of its relation is there", other)
		}
	}
	if !impl.HoldsKey([]impl.Fact{{Args: []int{}}, {}, {Args: nil}}, impl.Key{}) {
		t.Error("facts without arguments differ")
	}
	// More places than a valid key or fact has, also where only the last one
	// tells the facts apart.
	first, second := make([]int, 1000), make([]int, 1000)
	second[998], second[999] = 8, 9
	for _, last := range []int{0, 997, 998, 999, 1000} {
		k := impl.Key{Left: append(make([]int, 999), last)}
		if got := checkViolation(t, []impl.Fact{{Args: first}, {Args: second}}, []impl.Key{k}); (got[0] == 0) != (last < 998) {
			t.Errorf("the violation with the last place %d is %v", last, got)
		}
	}
}

// The facts that violate a key are at every pair of indices of a database of 24
// facts, alone and before others.
func TestFirstViolationEverywhere(t *testing.T) {
	k := impl.Key{Left: []int{1}}
	for j := range 24 {
		for i := range j {
			var db []impl.Fact
			for n := range 24 {
				db = append(db, impl.Fact{Args: []int{n, 50 + n}})
			}
			db[j].Args[1] = db[i].Args[1]
			if got := checkViolation(t, db, []impl.Key{{Left: []int{0}}, k}); !slices.Equal(got, []int{1, i, j}) {
				t.Fatalf("the violation is %v, want %d and %d", got, i, j)
			}
			for n := i + 1; n < 24; n++ {
				db[n].Args[1] = 49
			}
			db[j].Args[1] = db[i].Args[1]
			if got := checkViolation(t, db, []impl.Key{k}); !slices.Equal(got, []int{0, i, j}) {
				t.Fatalf("the first violation is %v, want %d and %d", got, i, j)
			}
		}
	}
}

// More facts and keys than a database and a list of keys can have.
func TestFirstViolationOfMany(t *testing.T) {
	db := manyFacts(1000)
	hold := []impl.Key{{Left: []int{1}}, {Left: []int{0, 1}}, {Rel: 1, Left: []int{0}}, {Left: []int{2}}}
	many := slices.Concat(hold, hold, hold)
	if n, i, j := impl.FirstViolation(db, many); n != -1 || i != -1 || j != -1 {
		t.Errorf("FirstViolation of 12 keys that hold = %d, %d, %d", n, i, j)
	}
	if n, i, j := impl.FirstViolation(db, append(many, impl.Key{Left: []int{0}})); n != 12 || i != 0 || j != 1 {
		t.Errorf("FirstViolation of the last of 13 keys = %d, %d, %d", n, i, j)
	}
	db[999] = impl.Fact{Args: []int{1, 998}}
	if n, i, j := impl.FirstViolation(db, hold); n != 0 || i != 998 || j != 999 {
		t.Errorf("FirstViolation of the last facts = %d, %d, %d", n, i, j)
	}
	if impl.HoldsKey(db, hold[0]) || !impl.HoldsKey(db, hold[1]) {
		t.Error("HoldsKey is wrong for many facts")
	}
	if n, i, j := impl.FirstViolation(db, make([]impl.Key, 1000)); n != 0 || i != 0 || j != 1 {
		t.Errorf("FirstViolation of 1000 keys = %d, %d, %d", n, i, j)
	}
}

// extends reports whether a key has all places of another one of its relation.
func extends(more impl.Key, k impl.Key) bool {
	return more.Rel == k.Rel && !slices.ContainsFunc(k.Left, func(place int) bool { return !slices.Contains(more.Left, place) })
}

// Promise 6 for keys: seeded databases of up to 24 facts with up to six keys.
func TestKeysOnChosenDatabases(t *testing.T) {
	r := rand.New(rand.NewSource(1212))
	all := keysOf(querySchema())
	violated, held := 0, 0
	for range 5000 {
		db := chosenFacts(r)
		var keys []impl.Key
		for range r.Intn(7) {
			keys = append(keys, all[r.Intn(len(all))])
		}
		if checkViolation(t, db, keys)[0] >= 0 {
			violated++
		} else {
			held++
		}
		// A part of the facts violates no key that all of them satisfy, and a key
		// with more places holds wherever one with some of them does.
		if len(db) > 0 {
			part := slices.Delete(slices.Clone(db), 0, 1+r.Intn(len(db)))
			for _, k := range all {
				if impl.HoldsKey(db, k) && !impl.HoldsKey(part, k) {
					t.Fatalf("%v holds in %v, but not in %v", k, db, part)
				}
			}
		}
		for _, k := range all {
			for _, more := range all {
				if extends(more, k) && impl.HoldsKey(db, k) && !impl.HoldsKey(db, more) {
					t.Fatalf("%v holds in %v, but %v does not", k, db, more)
				}
			}
		}
	}
	if violated < 1000 || held < 1000 {
		t.Errorf("only %d violated and %d held", violated, held)
	}
}

func TestFormatKey(t *testing.T) {
	for want, k := range map[string]impl.Key{
		"key r0 0":     {Left: []int{0}},
		"key r0 0 1":   {Left: []int{0, 1}},
		"key r1 0":     {Rel: 1, Left: []int{0}},
		"key r2 0 1 2": {Rel: 2, Left: []int{0, 1, 2}},
		"key r3 2":     {Rel: 3, Left: []int{2}},
		// Not valid, but with a format.
		"key r3 2 0":   {Rel: 3, Left: []int{2, 0}},
		"key r0 1 1 1": {Left: []int{1, 1, 1}},
	} {
		if got := impl.FormatKey(k); got != want {
			t.Errorf("FormatKey(%v) = %q, want %q", k, got, want)
		}
	}
	// Every relation around the limits with every list around them.
	for _, rel := range []int{math.MinInt, -1, 0, 1, 2, 3, 4, 5, math.MaxInt} {
		for _, left := range shortLists([]int{-1, 0, 1, 2, 3}, 4) {
			k, want := impl.Key{Rel: rel, Left: left}, ""
			if rel >= 0 && rel <= 3 && len(left) >= 1 && len(left) <= 3 && !slices.Contains(left, -1) && !slices.Contains(left, 3) {
				want = keyText(k)
			}
			if got := impl.FormatKey(k); got != want {
				t.Fatalf("FormatKey(%v) = %q, want %q", k, got, want)
			}
		}
	}
	for _, left := range [][]int{nil, {}, {math.MaxInt}, {math.MinInt}, {0, math.MaxInt}, {math.MinInt, 0}, make([]int, 1000)} {
		if got := impl.FormatKey(impl.Key{Left: left}); got != "" {
			t.Errorf("FormatKey of %d places = %q", len(left), got)
		}
	}
}

// Promise 2 for keys: what has a format is read for the schemas for which it is
// valid, and for no others.
func TestKeyInverse(t *testing.T) {
	lists := shortLists([]int{0, 1, 2, 3}, 3)
	for _, arity := range shortLists([]int{0, 1, 2, 3, 4}, 4) {
		s := impl.Schema{Arity: arity}
		bad := len(arity) == 0 || slices.Contains(arity, 0) || slices.Contains(arity, 4)
		for rel := range 5 {
			for _, left := range lists {
				k := impl.Key{Rel: rel, Left: left}
				want := impl.Key{}
				valid := !bad && rel < len(arity) && slices.ContainsFunc(placesOf(arity[rel]), func(l []int) bool { return slices.Equal(l, left) })
				if valid {
					want = k
					if got := impl.FormatKey(k); got != keyText(k) {
						t.Fatalf("FormatKey(%v) = %q", k, got)
					}
				}
				if got, ok := impl.ParseKey(s, keyText(k)); ok != valid || !sameKey(got, want) {
					t.Fatalf("ParseKey(%v, %q) = %v, %v", s, keyText(k), got, ok)
				}
			}
		}
	}
	for _, bad := range invalidSchemas() {
		if got, ok := impl.ParseKey(bad, "key r0 0"); ok || !sameKey(got, impl.Key{}) {
			t.Errorf("ParseKey for the schema %v = %v, %v", bad, got, ok)
		}
	}
}

func TestParseKeyInvalid(t *testing.T) {
	for _, text := range []string{
		"", " ", "k", "key", "key ", "key  ", "key r", "key r ", "key r0", "key r0 ", "key r1", "key 0", "key 0 0", "r0 0", " r0 0", "0", "r0", "key r 0", "key r  0", "keyr0 0", "keyr1 0", "r1 0", "key0 0", "key key r0 0", "key r0 0 key r0 0",
		" key r0 0", "key r0 0 ", "key  r0 0", "key r0  0", "key r0 0  1", "key r 0 0", "key\tr0 0", "key r0\t0", "key r0 0\n", "\nkey r0 0", "key r0 0\x00", "\x00key r0 0", "key r0 \xff", "\xffkey r0 0", "key r0,0", "key r0 0,1", "key r0 0, 1", "key r0 0;1", "key r0(0)", "key r0(0,1)", "key r0 01", "key r0 \u0660",
		"Key r0 0", "KEY r0 0", "kez r0 0", "ke r0 0", "keys r0 0", "key R0 0", "key s0 0", "key q0 0", "key rr0 0", "key r00 0", "key r01 0", "key r+0 0", "key r-0 0", "key r-1 0", "key r0.0 0", "key rX0 0", "key r3 0", "key r4 0", "key r9 0", "key r10 0", "key r100000000000000000000 0", "key r18446744073709551616 0",
		"key r0 00", "key r0 +0", "key r0 -0", "key r0 -1", "key r0 X0", "key r0 x", "key r0 r0", "key r0 0x0", "key r0 2", "key r0 3", "key r0 10", "key r1 1", "key r2 3", "key r0 18446744073709551616", "key r0 " + strings.Repeat("9", 1000), "key r0 " + strings.Repeat("0", 1000),
		"key r0 1 0", "key r0 0 0", "key r0 1 1", "key r0 0 1 1", "key r0 0 1 2", "key r1 0 0", "key r1 0 1", "key r2 2 1 0", "key r2 0 2 1", "key r2 1 0 2", "key r2 0 1 2 2", "key r2 0 1 2 3", "key r2 0 0 1", "key r2 0 1 2 ", "key r2 0 1 2 0 1 2", "key r2" + strings.Repeat(" 0", 1000), "key r2" + strings.Repeat(" ", 1000),
		"r0(1,2)", "+r0(1,2)", "r0 1 in r1 0", "yes :- r1(1)", "key r0 0 in r1 0",
	} {
		if got, ok := impl.ParseKey(querySchema(), text); ok || !sameKey(got, impl.Key{}) {
			t.Errorf("ParseKey(%q) = %v, %v, want the zero value, false", text, got, ok)
		}
	}
}

// A keyReader decides by a pattern which texts are formats of valid keys for
// querySchema.
type keyReader struct {
	whole *regexp.Regexp
}

func newKeyReader() keyReader {
	return keyReader{regexp.MustCompile(`\Akey r(?:0 (?:0|1|0 1)|1 0|2 (?:0|1|2|0 1|0 2|1 2|0 1 2))\z`)}
}

// check compares ParseKey with the pattern. Different keys have different texts,
// so the text of the result shows whether it is the right one.
func (r keyReader) check(t *testing.T, text string) bool {
	t.Helper()
	got, ok := impl.ParseKey(querySchema(), text)
	if ok != r.whole.MatchString(text) || ok && keyText(got) != text || !ok && !sameKey(got, impl.Key{}) {
		t.Fatalf("ParseKey(%q) = %v, %v", text, got, ok)
	}
	return ok
}

// Promise 2 for keys: of all strings of these bytes behind the start of a
// format, and of all sequences of these parts, only the formats are read.
func TestParseKeyShortStrings(t *testing.T) {
	r := newKeyReader()
	for _, k := range keysOf(querySchema()) {
		if !r.check(t, keyText(k)) {
			t.Errorf("%q is not read", keyText(k))
		}
	}
	read := 0
	for _, text := range wordsOf("r 0123-,X", 6) {
		if r.check(t, "key "+text) {
			read++
		}
		r.check(t, text)
		r.check(t, "key"+text)
	}
	if read != 10 {
		t.Errorf("%d formats are read, want all but the longest one", read)
	}
	for _, places := range wordsOf("012 -", 7) {
		for _, rel := range []string{"0", "1", "2", "3"} {
			r.check(t, "key r"+rel+places)
		}
	}
	for _, text := range shortTexts([]string{"key", " ", "r", "0", "1", "2", "key r2 ", " 2"}, 6) {
		r.check(t, text)
	}
}

// Promise 2 for keys: a text that differs from a format in one byte, or lacks or
// repeats a part of it, is read only if it is a format, too.
func TestParseKeyChangedByte(t *testing.T) {
	r := newKeyReader()
	for _, k := range keysOf(querySchema()) {
		for _, text := range changedTexts(keyText(k)) {
			r.check(t, text)
		}
	}
}

// The arguments stay as they are, with the memory behind them.
func TestKeysLeaveArgumentsAlone(t *testing.T) {
	s := impl.Schema{Arity: []int{2, 1, 9}[:2]}
	places := []int{0, 1, 0, 9, 9}
	keys := []impl.Key{{Left: places[:2]}, {Left: places[1:2]}, {Rel: 1, Left: places[2:3]}, {Left: places[1:3]}, {Rel: 9, Left: places[4:]}}
	values := []int{1, 1, 2, 1, 9}
	facts := []impl.Fact{{Args: values[2:4]}, {Args: values[:2]}, {Rel: 1, Args: values[:1]}, {Args: values[1:3]}, {Rel: 9, Args: values[4:]}}
	wantKeys, wantFacts := cloneKeys(keys), cloneFacts(facts)
	for n := range len(keys) + 1 {
		for m := range len(facts) + 1 {
			impl.AreKeys(s, keys[:n])
			impl.FirstViolation(facts[:m], keys[:n])
			for _, k := range keys[:n] {
				impl.IsKey(s, k)
				impl.HoldsKey(facts[:m], k)
				impl.FormatKey(k)
			}
			impl.ParseKey(s, "key r0 0 1")
			if !slices.Equal(places, []int{0, 1, 0, 9, 9}) || !slices.Equal(values, []int{1, 1, 2, 1, 9}) || !slices.Equal(s.Arity[:3], []int{2, 1, 9}) {
				t.Fatalf("the arguments are now %v, %v, %v", places, values, s)
			}
			if !sameKeys(keys, wantKeys) || !sameFacts(facts, wantFacts) {
				t.Fatalf("the arguments are now %v, %v", keys, facts)
			}
		}
	}
}

// A result is new memory each time.
func TestParseKeySharesNoMemory(t *testing.T) {
	s := querySchema()
	for _, k := range keysOf(s) {
		text := keyText(k)
		first := readKey(t, s, text)
		second := readKey(t, s, text)
		overwrite(first.Left)
		if keyText(second) != text {
			t.Errorf("a change of one result made another one %v", second)
		}
		if third := readKey(t, s, text); !sameKey(third, k) {
			t.Errorf("ParseKey(%q) after a change of its result = %v", text, third)
		}
	}
}

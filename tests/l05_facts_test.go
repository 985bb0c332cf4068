package tests

import (
	"math"
	"regexp"
	"slices"
	"strconv"
	"strings"
	"testing"

	"loop.example/g01985/impl"
)

func sameFact(a impl.Fact, b impl.Fact) bool {
	return a.Rel == b.Rel && slices.Equal(a.Args, b.Args)
}

func sameFacts(a []impl.Fact, b []impl.Fact) bool {
	return slices.EqualFunc(a, b, sameFact)
}

func cloneFacts(db []impl.Fact) []impl.Fact {
	var facts []impl.Fact
	for _, f := range db {
		facts = append(facts, impl.Fact{Rel: f.Rel, Args: slices.Clone(f.Args)})
	}
	return facts
}

// factText builds the format of a fact from the words of the specification.
func factText(f impl.Fact) string {
	var numbers []string
	for _, n := range f.Args {
		numbers = append(numbers, strconv.Itoa(n))
	}
	return "r" + strconv.Itoa(f.Rel) + "(" + strings.Join(numbers, ",") + ")"
}

// factNumber gives the facts of one schema ascending numbers, and no two facts
// the same one: facts of one relation have as many digits to the base 100.
func factNumber(f impl.Fact) int {
	n := 0
	for _, v := range f.Args {
		n = n*100 + v
	}
	return f.Rel*1000000 + n
}

// validFacts are all facts of querySchema with values at the limits, in order.
func validFacts() []impl.Fact {
	var all []impl.Fact
	values := []int{0, 1, 10, 79, 80, 99}
	for rel, arity := range []int{2, 1, 3} {
		for _, args := range shortLists(values, arity) {
			if len(args) == arity {
				all = append(all, impl.Fact{Rel: rel, Args: args})
			}
		}
	}
	return all
}

// invalidFacts are not valid for querySchema.
func invalidFacts() []impl.Fact {
	return []impl.Fact{
		{},
		{Args: []int{}},
		{Args: []int{1}},
		{Args: []int{1, 2, 3}},
		{Args: []int{-1, 2}},
		{Args: []int{1, -1}},
		{Args: []int{100, 1}},
		{Args: []int{1, 100}},
		{Args: []int{math.MaxInt, 1}},
		{Args: []int{1, math.MinInt}},
		{Rel: 1},
		{Rel: 1, Args: []int{100}},
		{Rel: 1, Args: []int{-1}},
		{Rel: 1, Args: []int{-80}},
		{Rel: 1, Args: []int{1, 1}},
		{Rel: 2, Args: []int{1, 1}},
		{Rel: 2, Args: []int{1, 1, 100}},
		{Rel: 2, Args: []int{1, -1, 1}},
		{Rel: 2, Args: []int{1, 1, 1, 1}},
		{Rel: 2, Args: make([]int, 1000)},
		{Rel: 3},
		{Rel: 3, Args: []int{1}},
		{Rel: 4, Args: []int{1}},
		{Rel: -1, Args: []int{1}},
		{Rel: -1},
		{Rel: math.MaxInt, Args: []int{1}},
		{Rel: math.MinInt, Args: []int{1}},
	}
}

// manyFacts returns the n facts r0(0,0) to r0(0,n-1).
func manyFacts(n int) []impl.Fact {
	var db []impl.Fact
	for i := range n {
		db = append(db, impl.Fact{Args: []int{0, i}})
	}
	return db
}

func TestFactLimits(t *testing.T) {
	if impl.MaxFacts != 24 || impl.MaxValue != 99 {
		t.Errorf("MaxFacts = %d, MaxValue = %d", impl.MaxFacts, impl.MaxValue)
	}
}

func TestIsFact(t *testing.T) {
	for _, f := range validFacts() {
		if !impl.IsFact(querySchema(), f) {
			t.Errorf("IsFact(%v) = false", f)
		}
		for _, bad := range invalidSchemas() {
			if impl.IsFact(bad, f) {
				t.Errorf("IsFact(%v) for the schema %v = true", f, bad)
			}
		}
	}
	for _, f := range invalidFacts() {
		if impl.IsFact(querySchema(), f) {
			t.Errorf("IsFact(%v) = true", f)
		}
	}
}

// Every relation around the limits with every list of values around them.
func TestIsFactSizes(t *testing.T) {
	arity := []int{1, 3, 2, 1}
	for relations := 1; relations <= 4; relations++ {
		s := impl.Schema{Arity: arity[:relations]}
		for rel := -1; rel <= 5; rel++ {
			for _, args := range shortLists([]int{-1, 0, 99, 100}, 4) {
				f := impl.Fact{Rel: rel, Args: args}
				want := rel >= 0 && rel < relations && len(args) == arity[rel] && !slices.Contains(args, -1) && !slices.Contains(args, 100)
				if got := impl.IsFact(s, f); got != want {
					t.Fatalf("IsFact(%v, %v) = %v", s, f, got)
				}
			}
		}
	}
	for v := -200; v <= 200; v++ {
		if got := impl.IsFact(querySchema(), impl.Fact{Rel: 1, Args: []int{v}}); got != (v >= 0 && v <= 99) {
			t.Errorf("IsFact of r1(%d) = %v", v, got)
		}
	}
}

// All lists of up to three facts, valid or not, in all orders.
func TestIsDatabase(t *testing.T) {
	facts := []impl.Fact{
		{Args: []int{0, 0}}, {Args: []int{0, 99}}, {Args: []int{1, 0}}, {Args: []int{2, 10}}, {Args: []int{10, 2}}, {Rel: 1, Args: []int{0}}, {Rel: 1, Args: []int{99}}, {Rel: 2, Args: []int{0, 0, 0}},
		// These are not valid.
		{Args: []int{0}}, {Args: []int{0, 100}}, {Rel: 1, Args: []int{-1}}, {Rel: 3, Args: []int{0}}, {Rel: -1, Args: []int{0}}, {},
	}
	const valid = 8
	for _, list := range shortLists([]int{0, 1, 2, 3, 4, 5, 6, 7, 8, 9, 10, 11, 12, 13}, 3) {
		var db []impl.Fact
		want := true
		for i, n := range list {
			db = append(db, facts[n])
			want = want && n < valid && (i == 0 || factNumber(facts[list[i-1]]) < factNumber(facts[n]))
		}
		if got := impl.IsDatabase(querySchema(), db); got != want {
			t.Fatalf("IsDatabase(%v) = %v", db, got)
		}
	}
}

func TestIsDatabaseSizes(t *testing.T) {
	s := querySchema()
	for n := range 60 {
		if got := impl.IsDatabase(s, manyFacts(n)); got != (n <= 24) {
			t.Errorf("IsDatabase of %d facts = %v", n, got)
		}
	}
	if !impl.IsDatabase(s, []impl.Fact{}) || !impl.IsDatabase(impl.Schema{Arity: []int{1}}, nil) {
		t.Error("IsDatabase of no facts = false")
	}
	for _, bad := range invalidSchemas() {
		if impl.IsDatabase(bad, nil) || impl.IsDatabase(bad, manyFacts(1)) {
			t.Errorf("IsDatabase for the schema %v = true", bad)
		}
	}
	// One fact out of place, twice or not valid, at every position.
	for i := range 24 {
		for _, f := range append(invalidFacts(), impl.Fact{Args: []int{0, (i + 1) % 24}}, impl.Fact{Args: []int{0, (i + 23) % 24}}) {
			db := manyFacts(24)
			db[i] = f
			if impl.IsDatabase(s, db) {
				t.Errorf("IsDatabase with %v at %d = true", f, i)
			}
		}
	}
}

// smallDatabases returns all databases of these six facts, with the facts.
func smallDatabases() ([][]impl.Fact, []impl.Fact) {
	facts := []impl.Fact{{Args: []int{0, 99}}, {Args: []int{2, 10}}, {Args: []int{10, 2}}, {Rel: 1, Args: []int{0}}, {Rel: 1, Args: []int{5}}, {Rel: 2, Args: []int{0, 0, 0}}}
	return databasesOf(facts), facts
}

// databasesOf returns all databases of these facts, which are in order.
func databasesOf(facts []impl.Fact) [][]impl.Fact {
	var all [][]impl.Fact
	for set := range 1 << len(facts) {
		var db []impl.Fact
		for i, f := range facts {
			if set>>i&1 == 1 {
				db = append(db, f)
			}
		}
		all = append(all, db)
	}
	return all
}

// withFact returns the facts and f in order, each once.
func withFact(db []impl.Fact, f impl.Fact) []impl.Fact {
	all := append(withoutFact(db, f), f)
	slices.SortFunc(all, func(a, b impl.Fact) int { return factNumber(a) - factNumber(b) })
	return all
}

func withoutFact(db []impl.Fact, f impl.Fact) []impl.Fact {
	return slices.DeleteFunc(slices.Clone(db), func(g impl.Fact) bool { return sameFact(f, g) })
}

func hasFact(db []impl.Fact, f impl.Fact) bool {
	return slices.ContainsFunc(db, func(g impl.Fact) bool { return sameFact(f, g) })
}

// Every fact, there already or not, is added to and removed from every database
// of some facts.
func TestAddAndRemoveFact(t *testing.T) {
	s := querySchema()
	databases, facts := smallDatabases()
	facts = append(facts, impl.Fact{Args: []int{0, 98}}, impl.Fact{Args: []int{99, 99}}, impl.Fact{Rel: 1, Args: []int{4}}, impl.Fact{Rel: 2, Args: []int{99, 99, 99}})
	for _, db := range databases {
		for _, f := range facts {
			there := hasFact(db, f)
			if got, ok := impl.AddFact(s, db, f); ok == there || !sameFacts(got, withFact(db, f)) {
				t.Fatalf("AddFact(%v, %v) = %v, %v", db, f, got, ok)
			}
			if got, ok := impl.RemoveFact(s, db, f); ok != there || !sameFacts(got, withoutFact(db, f)) {
				t.Fatalf("RemoveFact(%v, %v) = %v, %v", db, f, got, ok)
			}
			if got := impl.HasFact(db, f); got != there {
				t.Fatalf("HasFact(%v, %v) = %v", db, f, got)
			}
		}
	}
}

// A fact that is there already is not added again, and the facts stay the same,
// also where there is room for no other fact.
func TestAddFactThatIsThere(t *testing.T) {
	s := querySchema()
	for _, n := range []int{1, 2, 23, 24} {
		db := manyFacts(n)
		for _, f := range db {
			got, ok := impl.AddFact(s, db, f)
			if ok || !sameFacts(got, manyFacts(n)) {
				t.Errorf("AddFact(%d facts, %v) = %v, %v", n, f, got, ok)
			}
			less, ok := impl.RemoveFact(s, db, f)
			if !ok || impl.HasFact(less, f) {
				t.Fatalf("RemoveFact(%d facts, %v) = %v, %v", n, f, less, ok)
			}
			again, ok := impl.AddFact(s, less, f)
			if !ok || !sameFacts(again, db) {
				t.Errorf("AddFact(%v, %v) = %v, %v", less, f, again, ok)
			}
			if got, ok := impl.RemoveFact(s, less, f); ok || !sameFacts(got, less) {
				t.Errorf("RemoveFact(%v, %v) = %v, %v", less, f, got, ok)
			}
		}
	}
}

// The facts are inserted in all orders of numbers that step through them.
func TestAddFactUpToTheLimit(t *testing.T) {
	s := querySchema()
	for _, step := range []int{1, 5, 7, 11, 13, 17, 19, 23} {
		var db []impl.Fact
		for i := range 24 {
			var ok bool
			db, ok = impl.AddFact(s, db, impl.Fact{Args: []int{0, i * step % 24}})
			if !ok || len(db) != i+1 || !impl.IsDatabase(s, db) {
				t.Fatalf("step %d: AddFact of fact %d = %v, %v", step, i, db, ok)
			}
		}
		if !sameFacts(db, manyFacts(24)) {
			t.Errorf("step %d: the facts are %v", step, db)
		}
	}
	full := manyFacts(24)
	for _, f := range []impl.Fact{{Args: []int{0, 24}}, {Args: []int{1, 0}}, {Rel: 1, Args: []int{0}}} {
		if got, ok := impl.AddFact(s, full, f); ok || !sameFacts(got, full) {
			t.Errorf("AddFact of a fact too many = %v, %v", got, ok)
		}
	}
	if got, ok := impl.AddFact(s, full[1:], full[0]); !ok || !sameFacts(got, full) {
		t.Errorf("AddFact of the last fact that fits = %v, %v", got, ok)
	}
}

// What cannot be changed is returned as it is, field by field.
func TestAddAndRemoveFactInvalid(t *testing.T) {
	s := querySchema()
	one, two := impl.Fact{Rel: 1, Args: []int{1}}, impl.Fact{Rel: 1, Args: []int{2}}
	for _, f := range invalidFacts() {
		for _, db := range [][]impl.Fact{nil, {one}, {one, two}, manyFacts(24), {f}, {one, f}, {f, one}} {
			if got, ok := impl.AddFact(s, db, f); ok || !sameFacts(got, db) {
				t.Errorf("AddFact(%v, %v) = %v, %v", db, f, got, ok)
			}
			if got, ok := impl.RemoveFact(s, db, f); ok || !sameFacts(got, db) {
				t.Errorf("RemoveFact(%v, %v) = %v, %v", db, f, got, ok)
			}
		}
	}
	noDatabases := [][]impl.Fact{{two, one}, {one, one}, {one, two, two}, {one, {Args: []int{0, 0}}}, {one, {Rel: 1, Args: []int{100}}}, {{}, one}, {{Rel: -5, Args: []int{7, 8, 9, 10}}}, manyFacts(25), manyFacts(1000)}
	for _, db := range noDatabases {
		for _, f := range []impl.Fact{one, two, {Rel: 1, Args: []int{50}}, {Args: []int{0, 0}}, db[0], db[len(db)-1]} {
			if got, ok := impl.AddFact(s, db, f); ok || !sameFacts(got, db) {
				t.Errorf("AddFact(%v, %v) = %v, %v", db, f, got, ok)
			}
			if got, ok := impl.RemoveFact(s, db, f); ok || !sameFacts(got, db) {
				t.Errorf("RemoveFact(%v, %v) = %v, %v", db, f, got, ok)
			}
		}
	}
	for _, bad := range append(invalidSchemas(), impl.Schema{Arity: []int{1}}, impl.Schema{Arity: []int{2, 2}}) {
		db := []impl.Fact{one}
		if got, ok := impl.AddFact(bad, db, two); ok || !sameFacts(got, db) {
			t.Errorf("AddFact for the schema %v = %v, %v", bad, got, ok)
		}
		if got, ok := impl.AddFact(bad, nil, two); ok || len(got) != 0 {
			t.Errorf("AddFact to no facts for the schema %v = %v, %v", bad, got, ok)
		}
		if got, ok := impl.RemoveFact(bad, db, one); ok || !sameFacts(got, db) {
			t.Errorf("RemoveFact for the schema %v = %v, %v", bad, got, ok)
		}
	}
}

// differentFacts are valid and invalid facts of which no two are equal, in an
// order of their own.
func differentFacts() []impl.Fact {
	var all []impl.Fact
	for _, rel := range []int{3, 0, 1, 4, -1, math.MaxInt, math.MinInt} {
		for _, args := range shortLists([]int{1, 0, -1, 99, 100, math.MinInt, math.MaxInt}, 2) {
			all = append(all, impl.Fact{Rel: rel, Args: args})
		}
	}
	return append(all, impl.Fact{Args: []int{1, 2, 3}}, impl.Fact{Args: []int{1, 2, 3, 4}}, impl.Fact{Args: []int{1, 2, 3, 5}}, impl.Fact{Args: make([]int, 1000)})
}

// Any facts, in any order.
func TestHasFact(t *testing.T) {
	all := differentFacts()
	for i, f := range all {
		if !impl.HasFact(all, f) || !impl.HasFact(all[i:i+1], f) || impl.HasFact(slices.Concat(all[:i], all[i+1:]), f) || impl.HasFact(nil, f) {
			t.Errorf("HasFact of %v is wrong", f)
		}
	}
	if !impl.HasFact([]impl.Fact{{Args: []int{}}}, impl.Fact{}) || !impl.HasFact([]impl.Fact{{}}, impl.Fact{Args: []int{}}) {
		t.Error("nil arguments differ from an empty list")
	}
	if !impl.HasFact(manyFacts(1000), impl.Fact{Args: []int{0, 999}}) || impl.HasFact(manyFacts(1000), impl.Fact{Args: []int{0, 1000}}) {
		t.Error("HasFact is wrong for many facts")
	}
}

func TestEqualFacts(t *testing.T) {
	facts := []impl.Fact{{}, {Rel: 1}, {Args: []int{0}}, {Args: []int{1}}, {Args: []int{0, 0}}, {Rel: -1, Args: []int{math.MaxInt, 7, 7, 7}}}
	var lists [][]impl.Fact
	for _, list := range shortLists([]int{0, 1, 2, 3, 4, 5}, 3) {
		var db []impl.Fact
		for _, n := range list {
			db = append(db, facts[n])
		}
		lists = append(lists, db)
	}
	for i, a := range lists {
		for j, b := range lists {
			if got := impl.EqualFacts(a, b); got != (i == j) {
				t.Fatalf("EqualFacts(%v, %v) = %v", a, b, got)
			}
		}
		if !impl.EqualFacts(a, cloneFacts(a)) {
			t.Fatalf("EqualFacts of %v and a copy = false", a)
		}
	}
	all := differentFacts()
	for i, a := range all {
		for j, b := range all {
			if got := impl.EqualFacts([]impl.Fact{a}, []impl.Fact{b}); got != (i == j) {
				t.Fatalf("EqualFacts of %v and %v = %v", a, b, got)
			}
		}
	}
	if !impl.EqualFacts(nil, []impl.Fact{}) || !impl.EqualFacts([]impl.Fact{}, nil) || !impl.EqualFacts([]impl.Fact{{}}, []impl.Fact{{Args: []int{}}}) {
		t.Error("nil lists differ from empty ones")
	}
	if !impl.EqualFacts(manyFacts(1000), manyFacts(1000)) || impl.EqualFacts(manyFacts(1000), manyFacts(999)) {
		t.Error("EqualFacts is wrong for many facts")
	}
}

func TestFormatFact(t *testing.T) {
	for want, f := range map[string]impl.Fact{
		"r0(1,2)":      {Args: []int{1, 2}},
		"r1(3)":        {Rel: 1, Args: []int{3}},
		"r2(0,79,80)":  {Rel: 2, Args: []int{0, 79, 80}},
		"r3(99,99,99)": {Rel: 3, Args: []int{99, 99, 99}},
		"r3(10)":       {Rel: 3, Args: []int{10}},
		"r0(0)":        {Args: []int{0}},
	} {
		if got := impl.FormatFact(f); got != want {
			t.Errorf("FormatFact(%v) = %q, want %q", f, got, want)
		}
	}
	// Every relation around the limits with every list around them.
	for _, rel := range []int{math.MinInt, -1, 0, 1, 2, 3, 4, 5, math.MaxInt} {
		for _, args := range shortLists([]int{-1, 0, 9, 99, 100}, 5) {
			f, want := impl.Fact{Rel: rel, Args: args}, ""
			if rel >= 0 && rel <= 3 && len(args) >= 1 && len(args) <= 3 && !slices.Contains(args, -1) && !slices.Contains(args, 100) {
				want = factText(f)
			}
			if got := impl.FormatFact(f); got != want {
				t.Fatalf("FormatFact(%v) = %q, want %q", f, got, want)
			}
		}
	}
	for _, args := range [][]int{nil, {}, {math.MaxInt}, {math.MinInt}, {1, math.MaxInt}, make([]int, 1000)} {
		if got := impl.FormatFact(impl.Fact{Args: args}); got != "" {
			t.Errorf("FormatFact of %d arguments = %q", len(args), got)
		}
	}
}

// Promise 2 for facts: every valid fact is read from its format.
func TestFactInverse(t *testing.T) {
	s := querySchema()
	facts := validFacts()
	for a := range 100 {
		facts = append(facts, impl.Fact{Rel: 1, Args: []int{a}}, impl.Fact{Rel: 2, Args: []int{a, 99 - a, a}})
		for b := range 100 {
			facts = append(facts, impl.Fact{Args: []int{a, b}})
		}
	}
	for _, f := range facts {
		text := factText(f)
		if got := impl.FormatFact(f); got != text {
			t.Fatalf("FormatFact(%v) = %q, want %q", f, got, text)
		}
		if got, ok := impl.ParseFact(s, text); !ok || !sameFact(got, f) {
			t.Fatalf("ParseFact(%q) = %v, %v, want %v, true", text, got, ok, f)
		}
	}
}

// What has a format is read for the schemas for which it is valid, and for no
// others.
func TestParseFactSchemas(t *testing.T) {
	for _, arity := range shortLists([]int{0, 1, 2, 3, 4}, 4) {
		s := impl.Schema{Arity: arity}
		bad := len(arity) == 0 || slices.Contains(arity, 0) || slices.Contains(arity, 4)
		for rel := range 5 {
			for _, args := range shortLists([]int{7, 42}, 3)[1:] {
				f := impl.Fact{Rel: rel, Args: args}
				want := impl.Fact{}
				valid := !bad && rel < len(arity) && arity[rel] == len(args)
				if valid {
					want = f
				}
				if got, ok := impl.ParseFact(s, factText(f)); ok != valid || !sameFact(got, want) {
					t.Fatalf("ParseFact(%v, %q) = %v, %v", s, factText(f), got, ok)
				}
			}
		}
	}
	for _, bad := range invalidSchemas() {
		if got, ok := impl.ParseFact(bad, "r0(1,2)"); ok || !sameFact(got, impl.Fact{}) {
			t.Errorf("ParseFact for the schema %v = %v, %v", bad, got, ok)
		}
	}
}

func TestParseFactInvalid(t *testing.T) {
	for _, text := range []string{
		"", " ", "r", "r0", "r1", "(1)", "r(1)", "1", "r1()", "r0()", "r1(", "r1)", "r1(1", "r11)", "1)", "()", "r1(1))", "r1((1)", "r1((1))", "r1(1)(1)", "r1(1)r1(1)", "r1(1);r1(1)", "r1[1]", "r1(1]", "r1{1}",
		" r1(1)", "r1(1) ", "r 1(1)", "r1 (1)", "r1( 1)", "r1(1 )", "r0(1, 2)", "r0(1 ,2)", "r0(1 2)", "r0(1;2)", "r0(1.2)", "r1(1)\n", "\nr1(1)", "r1(1)\x00", "\x00r1(1)", "r1(1\x00)", "r1(\xff)", "\xffr1(1)", "r1(\u0661)",
		"R1(1)", "s1(1)", "q0(1,2)", "1(1)", "rr1(1)", "r01(1)", "r00(1,2)", "r+1(1)", "r-1(1)", "r-0(1,2)", "r1.0(1)", "rX1(1)", "r3(1)", "r4(1)", "r10(1)", "r100000000000000000001(1)",
		"r1(X1)", "r1(X0)", "r0(1,X2)", "r1(x)", "r1(+1)", "r1(-1)", "r1(-0)", "r1(-80)", "r1(01)", "r1(00)", "r1(100)", "r1(101)", "r1(999)", "r1(1e1)", "r1(0x1)", "r1(1_0)", "r1(1000000000)", "r1(18446744073709551617)", "r1(" + strings.Repeat("9", 1000) + ")", "r1(" + strings.Repeat("0", 1000) + "1)",
		"r0(1)", "r0(1,2,3)", "r1(1,2)", "r2(1,2)", "r2(1,2,3,4)", "r0(,2)", "r0(1,)", "r0(,)", "r0(1,,2)", "r1(,)", "r1(1,)", "r1(,1)", "r2(1,2,)", "r2(1,2,3,)", "r2(,1,2,3)", "r2(1,2,,3)", "r2(,,)", "r0(01,2)", "r0(1,02)", "r0(1,100)", "r0(100,1)", "r2(1,2,100)", "r0(1,2", "r2" + strings.Repeat("(1,2,3)", 100), "r2(" + strings.Repeat("1,", 1000) + "1)",
		"yes", "yes :- r1(1)", "+r1(1)", "-r1(1)",
	} {
		if got, ok := impl.ParseFact(querySchema(), text); ok || !sameFact(got, impl.Fact{}) {
			t.Errorf("ParseFact(%q) = %v, %v, want the zero value, false", text, got, ok)
		}
	}
}

// A factReader decides by a pattern which texts are formats of valid facts for
// querySchema.
type factReader struct {
	whole *regexp.Regexp
}

func newFactReader() factReader {
	v := `(?:[1-9]?[0-9])`
	return factReader{regexp.MustCompile(`\Ar(?:0\(` + v + "," + v + `\)|1\(` + v + `\)|2\(` + v + "," + v + "," + v + `\))\z`)}
}

// check compares ParseFact with the pattern. Different facts have different
// texts, so the text of the result shows whether it is the right one.
func (r factReader) check(t *testing.T, text string) {
	t.Helper()
	got, ok := impl.ParseFact(querySchema(), text)
	if ok != r.whole.MatchString(text) || ok && factText(got) != text || !ok && !sameFact(got, impl.Fact{}) {
		t.Fatalf("ParseFact(%q) = %v, %v", text, got, ok)
	}
}

func TestFactReader(t *testing.T) {
	r := newFactReader()
	for _, f := range validFacts() {
		if !r.whole.MatchString(factText(f)) {
			t.Errorf("the pattern refuses %q", factText(f))
		}
	}
	for _, text := range []string{"", "r1(1)\n", "\nr1(1)", "r1(100)", "r1(01)", "r3(1)", "r1()", "r0(1)", "r1(1,2)", "r1(X1)"} {
		if r.whole.MatchString(text) {
			t.Errorf("the pattern accepts %q", text)
		}
	}
}

// Promise 2 for facts: of all short strings of these bytes, and of all
// sequences of these parts, only the formats are read.
func TestParseFactShortStrings(t *testing.T) {
	r := newFactReader()
	for _, text := range wordsOf("r()019,X-", 6) {
		r.check(t, text)
	}
	for _, list := range wordsOf("019,X- ()", 5) {
		r.check(t, "r0("+list+")")
		r.check(t, "r1("+list+")")
		r.check(t, "r2("+list+")")
	}
	for _, text := range shortTexts([]string{"r", "0", "1", "2", "(", ")", ",", "r0(1,2)", "r1("}, 5) {
		r.check(t, text)
	}
}

// Promise 2 for facts: a text that differs from a format in one byte, or lacks
// or repeats a part of it, is read only if it is a format, too.
func TestParseFactChangedByte(t *testing.T) {
	r := newFactReader()
	for _, text := range []string{"r1(3)", "r1(99)", "r0(1,2)", "r0(10,79)", "r2(0,80,99)"} {
		for _, changed := range changedTexts(text) {
			r.check(t, changed)
		}
	}
}

// The arguments stay as they are, with the memory behind them.
func TestFactsLeaveArgumentsAlone(t *testing.T) {
	s := impl.Schema{Arity: []int{2, 1, 9}[:2]}
	values := []int{0, 1, 5, 9, 9}
	spare := []impl.Fact{{Args: values[:2]}, {Args: values[1:3]}, {Rel: 1, Args: values[3:4]}, {Rel: 9, Args: values[4:]}, {Rel: 9}}
	want := cloneFacts(spare)
	for n := range 4 {
		db := spare[:n]
		for _, f := range append(cloneFacts(want), impl.Fact{Args: []int{0, 0}}, impl.Fact{Args: []int{1, 1}}, impl.Fact{Rel: 1, Args: []int{99}}) {
			impl.IsFact(s, f)
			impl.IsDatabase(s, db)
			impl.AddFact(s, db, f)
			impl.RemoveFact(s, db, f)
			impl.HasFact(db, f)
			impl.FormatFact(f)
			impl.ParseFact(s, "r0(1,2)")
			impl.EqualFacts(db, db)
			if !slices.Equal(values, []int{0, 1, 5, 9, 9}) || !sameFacts(spare, want) || !slices.Equal(s.Arity[:3], []int{2, 1, 9}) {
				t.Fatalf("%d facts, %v: the arguments are now %v, %v, %v", n, f, values, spare, s)
			}
		}
	}
}

// checkOwnMemory overwrites the slices of facts one after the other, and each
// time checks that no other one has changed; then it overwrites the facts.
func checkOwnMemory(t *testing.T, facts []impl.Fact) {
	t.Helper()
	want := cloneFacts(facts)
	// What is left in the unused capacity comes first, while the facts are still
	// as they were.
	facts = facts[:cap(facts)]
	for i := len(facts) - 1; i >= 0; i-- {
		overwrite(facts[i].Args)
		for j := range want {
			if j == i {
				want[i].Args = slices.Repeat([]int{77}, len(want[i].Args))
			}
			if !sameFact(facts[j], want[j]) {
				t.Fatalf("a change of fact %d made fact %d %v, not %v", i, j, facts[j], want[j])
			}
		}
	}
	for i := range facts {
		facts[i] = impl.Fact{Rel: 7}
	}
}

// A result is new memory, and no two of its slices share any, whether or not
// the facts could be changed.
func TestFactResultsShareNoMemory(t *testing.T) {
	s := querySchema()
	shared := []int{1, 2, 3}
	db := []impl.Fact{{Args: shared[:2]}, {Args: shared[1:]}, {Rel: 1, Args: shared[:1]}, {Rel: 2, Args: shared}}
	unsorted := []impl.Fact{{Rel: 1, Args: shared[:1]}, {Args: shared[:2]}, {Args: shared[:2]}}
	facts := []impl.Fact{{Args: []int{0, 5}}, {Args: []int{1, 5}}, {Rel: 2, Args: []int{9, 9, 9}}, {Args: []int{1, 2}}, {Args: []int{2, 3}}, {Rel: 2, Args: []int{1, 2, 3}}, {Args: []int{100, 1}}, {}}
	for _, arg := range [][]impl.Fact{db, unsorted, db[:1], nil} {
		want := cloneFacts(arg)
		for _, f := range facts {
			whole := impl.Fact{Rel: f.Rel, Args: slices.Clone(f.Args)}
			added, _ := impl.AddFact(s, arg, f)
			checkOwnMemory(t, added)
			removed, _ := impl.RemoveFact(s, arg, f)
			checkOwnMemory(t, removed)
			if !sameFacts(arg, want) || !sameFact(f, whole) {
				t.Fatalf("a change of the result changed the arguments to %v, %v", arg, f)
			}
		}
	}
	first, _ := impl.ParseFact(s, "r2(1,2,3)")
	overwrite(first.Args)
	if second, ok := impl.ParseFact(s, "r2(1,2,3)"); !ok || factText(second) != "r2(1,2,3)" {
		t.Errorf("ParseFact after a change of its result = %v, %v", second, ok)
	}
}

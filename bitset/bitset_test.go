package bitset_test

import (
	"iter"
	"math"
	"math/rand"
	"slices"
	"testing"

	"burnish/api"
	"burnish/bitset"
)

// Capacities at and around the ends of a word, and the greatest one.
var capacities = []int{0, 1, 2, 5, 63, 64, 65, 127, 128, 129, 1000, api.MaxNodes - 1, api.MaxNodes}

// elements returns what All yields.
func elements(s *bitset.Set) []int {
	return slices.Collect(s.All())
}

// check compares a set with the elements that it should have, by every method that only looks.
func check(t *testing.T, s *bitset.Set, capacity int, want ...int) {
	t.Helper()
	if s.Cap() != capacity || s.Count() != len(want) || !slices.Equal(elements(s), want) {
		t.Errorf("Cap %d, Count %d, elements %v, want Cap %d and %v", s.Cap(), s.Count(), elements(s), capacity, want)
	}
	for i := -1; i <= min(capacity, 200); i++ {
		if _, found := slices.BinarySearch(want, i); s.Has(i) != found {
			t.Errorf("Has(%d) = %v, elements %v", i, s.Has(i), want)
		}
	}
}

// someOf returns about one in every of the numbers below n, sorted.
func someOf(r *rand.Rand, n, every int) []int {
	var l []int
	for i := range n {
		if r.Intn(every) == 0 {
			l = append(l, i)
		}
	}
	return l
}

// P3.1
func TestNewIsEmpty(t *testing.T) {
	for _, n := range capacities {
		s := bitset.New(n)
		if s == nil {
			t.Fatalf("New(%d) = nil", n)
		}
		check(t, s, n)
		if n > 0 && (!s.Add(0) || !s.Has(0)) {
			t.Errorf("New(%d): 0 is no possible element", n)
		}
		if n > 1 && (!s.Add(n-1) || !s.Has(n-1)) {
			t.Errorf("New(%d): %d is no possible element", n, n-1)
		}
	}
}

// P3.1
func TestCapacityOutOfRange(t *testing.T) {
	for _, n := range []int{-1, -64, math.MinInt, api.MaxNodes + 1, math.MaxInt} {
		if bitset.New(n) != nil {
			t.Errorf("New(%d) is not nil", n)
		}
		if bitset.Of(n) != nil || bitset.Of(n, 0, 1) != nil {
			t.Errorf("Of(%d) is not nil", n)
		}
	}
}

// P3.1
func TestOf(t *testing.T) {
	check(t, bitset.Of(5, 3, 1, 3, 9), 5, 1, 3)
	check(t, bitset.Of(0, 0, -1), 0)
	check(t, bitset.Of(7), 7)
	check(t, bitset.Of(64, 64, 63, math.MaxInt, math.MinInt), 64, 63)
	check(t, bitset.Of(200, 128, 63, 64, 0, 199, 127), 200, 0, 63, 64, 127, 128, 199)
	elems := []int{4, 2}
	bitset.Of(5, elems...)
	if !slices.Equal(elems, []int{4, 2}) {
		t.Errorf("Of changed its elements to %v", elems)
	}
}

// Example 1
func TestExample(t *testing.T) {
	s := bitset.Of(5, 3, 1, 3, 9)
	check(t, s, 5, 1, 3)
	if s.Add(3) {
		t.Error("Add(3) added an element twice")
	}
	if !s.Subtract(bitset.Of(5, 3)) {
		t.Error("Subtract changed nothing")
	}
	check(t, s, 5, 1)
	if s.Subtract(bitset.Of(5, 3)) {
		t.Error("the second Subtract changed the set")
	}
	check(t, s, 5, 1)
}

// P3.2
func TestAddAndRemove(t *testing.T) {
	r := rand.New(rand.NewSource(1))
	for _, n := range []int{1, 5, 64, 130} {
		s, model := bitset.New(n), map[int]bool{}
		for range 2000 {
			i := r.Intn(n+4) - 2
			inRange := i >= 0 && i < n
			if r.Intn(2) == 0 {
				if got, want := s.Add(i), inRange && !model[i]; got != want {
					t.Fatalf("capacity %d: Add(%d) = %v", n, i, got)
				}
				if inRange {
					model[i] = true
				}
			} else {
				if got, want := s.Remove(i), model[i]; got != want {
					t.Fatalf("capacity %d: Remove(%d) = %v", n, i, got)
				}
				delete(model, i)
			}
			if s.Has(i) != model[i] || s.Count() != len(model) {
				t.Fatalf("capacity %d: after %d, Has %v, Count %d, want %v", n, i, s.Has(i), s.Count(), model)
			}
		}
		var want []int
		for i := range n {
			if model[i] {
				want = append(want, i)
			}
		}
		check(t, s, n, want...)
	}
}

// P3.2
func TestElementsOutOfRange(t *testing.T) {
	for _, n := range []int{0, 1, 5, 63, 64, 65} {
		s := bitset.New(n)
		for i := range n {
			s.Add(i)
		}
		before := s.Clone()
		for _, i := range []int{-1, -64, n, n + 1, n + 63, n + 64, math.MinInt, math.MaxInt} {
			if s.Has(i) || s.Add(i) || s.Remove(i) || s.Has(i) {
				t.Errorf("capacity %d has room for %d", n, i)
			}
		}
		if !s.Equal(before) || s.Count() != n {
			t.Errorf("capacity %d: the set is now %v", n, elements(s))
		}
	}
}

// P3.2
func TestAllAscendsAndStops(t *testing.T) {
	s := bitset.Of(300, 299, 64, 63, 128, 0, 5)
	all := s.All()
	for range 2 { // the iterator starts anew each time
		if got := slices.Collect(all); !slices.Equal(got, []int{0, 5, 63, 64, 128, 299}) {
			t.Errorf("All yields %v", got)
		}
	}
	var first []int
	for i := range all {
		if first = append(first, i); i == 63 {
			break
		}
	}
	if !slices.Equal(first, []int{0, 5, 63}) {
		t.Errorf("until 63, All yields %v", first)
	}
	if next, stop := iter.Pull(bitset.New(64).All()); next != nil {
		if i, ok := next(); ok {
			t.Errorf("the empty set yields %d", i)
		}
		stop()
	}
}

// P3.2
func TestAllOfAChangingSet(t *testing.T) {
	s := bitset.Of(200, 1, 2, 3, 70, 150)
	var got []int
	for i := range s.All() {
		got = append(got, i)
		s.Remove(i)
		switch i {
		case 1:
			s.Remove(2)
			s.Add(100)
		case 100:
			s.Add(99)
			s.Add(101)
		}
	}
	if !slices.Equal(got, []int{1, 3, 70, 100, 101, 150}) {
		t.Errorf("All yields %v", got)
	}
	check(t, s, 200, 99)
}

// operation is one of the operations on two sets, with its meaning for one element.
type operation struct {
	name  string
	apply func(s, o *bitset.Set) bool
	keep  func(inS, inO bool) bool
}

var operations = []operation{
	{"Union", (*bitset.Set).Union, func(inS, inO bool) bool { return inS || inO }},
	{"Subtract", (*bitset.Set).Subtract, func(inS, inO bool) bool { return inS && !inO }},
	{"Intersect", (*bitset.Set).Intersect, func(inS, inO bool) bool { return inS && inO }},
}

// expect returns what the operation should make of two sets.
func (op operation) expect(n int, s, o *bitset.Set) []int {
	var want []int
	for i := range n {
		if op.keep(s.Has(i), o.Has(i)) {
			want = append(want, i)
		}
	}
	return want
}

// P3.3
func TestOperations(t *testing.T) {
	r := rand.New(rand.NewSource(2))
	for _, n := range []int{0, 1, 5, 64, 65, 200, 1000} {
		for range 40 {
			a, b := someOf(r, n, 1+r.Intn(4)), someOf(r, n, 1+r.Intn(40))
			for _, op := range operations {
				s, o := bitset.Of(n, a...), bitset.Of(n, b...)
				want := op.expect(n, s, o)
				if changed := op.apply(s, o); changed != !slices.Equal(a, want) {
					t.Errorf("%s of %v and %v: %v", op.name, a, b, changed)
				}
				check(t, s, n, want...)
				check(t, o, n, b...)
				if op.apply(s, o) {
					t.Errorf("%s of %v and %v changes the set twice", op.name, a, b)
				}
			}
		}
	}
}

// P3.3
func TestOperationsReportChangeInAnyWord(t *testing.T) {
	for _, i := range []int{0, 63, 64, 127, 128, 199} {
		s := bitset.New(200)
		if !s.Union(bitset.Of(200, i)) || s.Union(bitset.Of(200, i)) {
			t.Errorf("Union with %d: what it reports", i)
		}
		if !s.Clone().Subtract(bitset.Of(200, i)) || !s.Clone().Intersect(bitset.New(200)) {
			t.Errorf("Subtract or Intersect that removes %d reports no change", i)
		}
	}
}

// P3.3
func TestOperationsOnOneSet(t *testing.T) {
	for _, elems := range [][]int{nil, {0}, {3, 64, 99}} {
		s := bitset.Of(100, elems...)
		if s.Union(s) || s.Intersect(s) || !s.Equal(s) {
			t.Errorf("Union, Intersect or Equal of %v and itself", elems)
		}
		check(t, s, 100, elems...)
		if s.Subtract(s) != (len(elems) > 0) {
			t.Errorf("Subtract of %v and itself: what it reports", elems)
		}
		check(t, s, 100)
	}
}

// P3.3
func TestOperationsOnOtherCapacities(t *testing.T) {
	for _, n := range []int{0, 4, 6, 64, 65, api.MaxNodes} {
		for _, op := range operations {
			s, o := bitset.Of(5, 1, 2), bitset.Of(n, 2, 3)
			before := o.Clone()
			if op.apply(s, o) || op.apply(s, nil) {
				t.Errorf("%s with capacity %d or nil reports a change", op.name, n)
			}
			check(t, s, 5, 1, 2)
			if !o.Equal(before) {
				t.Errorf("%s changed its argument", op.name)
			}
		}
	}
}

// P3.3
func TestEqual(t *testing.T) {
	sets := []*bitset.Set{
		bitset.New(0), bitset.New(5), bitset.New(6), bitset.New(64), bitset.New(65), bitset.Of(5, 0), bitset.Of(5, 4),
		bitset.Of(5, 0, 4), bitset.Of(6, 0, 4), bitset.Of(200, 3, 180), bitset.Of(200, 3, 181), bitset.Of(200, 3),
	}
	for i, s := range sets {
		for j, o := range sets {
			if s.Equal(o) != (i == j) {
				t.Errorf("Equal of sets %d and %d", i, j)
			}
		}
		if !s.Equal(bitset.Of(s.Cap(), elements(s)...)) {
			t.Errorf("set %d does not equal another one like it", i)
		}
	}
}

// P3.3
func TestCloneIsIndependent(t *testing.T) {
	for _, n := range capacities {
		s := bitset.Of(n, 0, n/2, n-1)
		want := elements(s)
		c := s.Clone()
		if c == s || !c.Equal(s) || !s.Equal(c) {
			t.Fatalf("capacity %d: the clone has %v", n, elements(c))
		}
		check(t, c, n, want...)
		if n == 0 {
			continue
		}
		c.Remove(0)
		check(t, s, n, want...)
		s.Subtract(s)
		if c.Add(0); !slices.Equal(elements(c), want) {
			t.Errorf("capacity %d: the clone has %v, want %v", n, elements(c), want)
		}
	}
}

// notMade returns sets that no function of the package made; their reasons are the keys.
func notMade() map[string]*bitset.Set {
	copied := *bitset.Of(5, 1, 3)
	return map[string]*bitset.Set{"nil": nil, "zero": {}, "New gave nil": bitset.New(-1), "copy": &copied}
}

// P3.4
func TestSetsNotMade(t *testing.T) {
	for name, s := range notMade() {
		if s.Cap() != 0 || s.Count() != 0 || s.Has(1) || s.Add(2) || s.Remove(1) || s.Clone() != nil {
			t.Errorf("%s: it acts like a set", name)
		}
		for i := range s.All() {
			t.Errorf("%s: All yields %d", name, i)
		}
		for _, op := range operations {
			for _, o := range []*bitset.Set{s, nil, bitset.New(0), bitset.Of(5, 3)} {
				if op.apply(s, o) {
					t.Errorf("%s: %s reports a change", name, op.name)
				}
			}
		}
		if s.Has(3) || s.Count() != 0 {
			t.Errorf("%s: it has elements now", name)
		}
	}
}

// P3.4
func TestSetsNotMadeAsArguments(t *testing.T) {
	for name, o := range notMade() {
		for _, n := range []int{0, 5} {
			s := bitset.Of(n, 0, 3)
			want := elements(s)
			for _, op := range operations {
				if op.apply(s, o) {
					t.Errorf("%s: %s reports a change", name, op.name)
				}
			}
			check(t, s, n, want...)
			if s.Equal(o) || o.Equal(s) {
				t.Errorf("%s: equal to a set of capacity %d", name, n)
			}
		}
		for other, p := range notMade() {
			if !o.Equal(p) {
				t.Errorf("%s and %s: not equal", name, other)
			}
		}
	}
}

// P3.5
func TestConsequences(t *testing.T) {
	r := rand.New(rand.NewSource(3))
	for range 300 {
		n := r.Intn(300)
		a, b := bitset.Of(n, someOf(r, n, 3)...), bitset.Of(n, someOf(r, n, 2)...)
		union, difference, common := a.Clone(), a.Clone(), a.Clone()
		union.Union(b)
		difference.Subtract(b)
		common.Intersect(b)
		if union.Count() != a.Count()+b.Count()-common.Count() {
			t.Errorf("the union of %v and %v has %d elements", elements(a), elements(b), union.Count())
		}
		both := difference.Clone()
		if both.Intersect(common); both.Count() != 0 {
			t.Errorf("%v and %v: difference and intersection share %v", elements(a), elements(b), elements(both))
		}
		if difference.Union(common); !difference.Equal(a) {
			t.Errorf("%v and %v: difference and intersection make %v", elements(a), elements(b), elements(difference))
		}
	}
}

package worklist_test

import (
	"cmp"
	"math"
	"math/rand"
	"slices"
	"testing"

	"burnish/api"
	"burnish/worklist"
)

// model is what a queue should be: the integers in the order of their pushes,
// and for a priority queue their ranks.
type model struct {
	room  int
	items []int
	rank  []int // nil if the queue is first-in-first-out
}

func (m *model) push(i int) bool {
	if i < 0 || i >= m.room || slices.Contains(m.items, i) {
		return false
	}
	m.items = append(m.items, i)
	return true
}

func (m *model) pop() (int, bool) {
	if len(m.items) == 0 {
		return 0, false
	}
	next := m.items[0]
	if m.rank != nil {
		next = slices.MinFunc(m.items, func(a, b int) int {
			return cmp.Or(cmp.Compare(m.rank[a], m.rank[b]), cmp.Compare(a, b))
		})
	}
	m.items = slices.DeleteFunc(m.items, func(i int) bool { return i == next })
	return next, true
}

// expectPop pops and compares the results.
func expectPop(t *testing.T, q *worklist.Queue, want int, ok bool) {
	t.Helper()
	if i, got := q.Pop(); i != want || got != ok {
		t.Errorf("Pop = %d, %v, want %d, %v", i, got, want, ok)
	}
}

// expectItems compares what Len and Has tell of the integers in [-3, room + 3) with what the queue should hold.
func expectItems(t *testing.T, q *worklist.Queue, room int, want ...int) {
	t.Helper()
	if q.Len() != len(want) {
		t.Errorf("Len %d, want %d", q.Len(), len(want))
	}
	for i := -3; i < room+3; i++ {
		if q.Has(i) != slices.Contains(want, i) {
			t.Errorf("Has(%d) = %v, want %v", i, q.Has(i), want)
		}
	}
}

// popAll empties a queue.
func popAll(q *worklist.Queue) []int {
	var all []int
	for i, ok := q.Pop(); ok; i, ok = q.Pop() {
		all = append(all, i)
	}
	return all
}

// someRanks returns n ranks, most of them more than once, and the least and the greatest among them.
func someRanks(r *rand.Rand, n int) []int {
	rank := make([]int, n)
	for i := range rank {
		switch rank[i] = r.Intn(7) - 3; r.Intn(8) {
		case 0:
			rank[i] = math.MinInt
		case 1:
			rank[i] = math.MaxInt
		}
	}
	return rank
}

// Example 1
func TestFirstInFirstOutExample(t *testing.T) {
	q := worklist.New(3)
	if !q.Push(2) || !q.Push(0) || q.Push(2) {
		t.Error("the pushes do not return true, true, false")
	}
	expectPop(t, q, 2, true)
	expectPop(t, q, 0, true)
	expectPop(t, q, 0, false)
}

// Example 2
func TestPriorityExample(t *testing.T) {
	q := worklist.NewByRank([]int{5, 1, 5})
	for i := range 3 {
		if !q.Push(i) {
			t.Errorf("Push(%d) returns false", i)
		}
	}
	for _, i := range []int{1, 0, 2} {
		expectPop(t, q, i, true)
	}
	expectPop(t, q, 0, false)
}

// P5.1, P5.2
func TestRoom(t *testing.T) {
	for _, c := range []struct{ n, room int }{
		{math.MinInt, 0}, {-1, 0}, {0, 0}, {1, 1}, {2, 2}, {100, 100}, {api.MaxNodes - 1, api.MaxNodes - 1},
		{api.MaxNodes, api.MaxNodes}, {api.MaxNodes + 1, api.MaxNodes}, {math.MaxInt, api.MaxNodes},
	} {
		expectRoom(t, worklist.New(c.n), c.room)
	}
	for _, c := range []struct{ ranks, room int }{
		{0, 0}, {1, 1}, {100, 100}, {api.MaxNodes, api.MaxNodes}, {api.MaxNodes + 1, api.MaxNodes}, {2*api.MaxNodes + 9, api.MaxNodes},
	} {
		expectRoom(t, worklist.NewByRank(make([]int, c.ranks)), c.room)
	}
	expectRoom(t, worklist.NewByRank(nil), 0)
}

// expectRoom checks that a new queue is empty and takes the integers in [0, room), each once, and no others.
func expectRoom(t *testing.T, q *worklist.Queue, room int) {
	t.Helper()
	if q == nil {
		t.Fatal("the queue is nil")
	}
	expectItems(t, q, 3)
	expectPop(t, q, 0, false)
	for _, i := range []int{math.MinInt, -1, room, room + 1, math.MaxInt} {
		if q.Push(i) || q.Has(i) {
			t.Errorf("room %d: it takes %d", room, i)
		}
	}
	for i := range room {
		if q.Has(i) || !q.Push(i) || q.Push(i) || !q.Has(i) || q.Len() != i+1 {
			t.Fatalf("room %d: it does not take %d once", room, i)
		}
	}
	for i := range room {
		if got, ok := q.Pop(); got != i || !ok {
			t.Fatalf("room %d: Pop = %d, %v, want %d", room, got, ok, i)
		}
	}
	expectPop(t, q, 0, false)
	expectItems(t, q, 3)
}

// P5.1
func TestRanksBeyondTheRoomDoNotMatter(t *testing.T) {
	rank := make([]int, api.MaxNodes+2)
	for i := range rank {
		rank[i] = -i
	}
	q := worklist.NewByRank(rank)
	for _, i := range []int{5, api.MaxNodes, api.MaxNodes - 1, api.MaxNodes + 1, 0} {
		q.Push(i)
	}
	if got := popAll(q); !slices.Equal(got, []int{api.MaxNodes - 1, 5, 0}) {
		t.Errorf("popped %v", got)
	}
}

// P5.1, P5.3
func TestRanksAreCopied(t *testing.T) {
	rank := []int{3, 2, 1, 0}
	q := worklist.NewByRank(rank[:3])
	for i := range 3 {
		q.Push(i)
	}
	if !slices.Equal(rank, []int{3, 2, 1, 0}) {
		t.Errorf("the ranks are now %v", rank)
	}
	rank[0], rank[2] = -5, 5
	q.Pop()
	q.Push(2)
	if got := popAll(q); !slices.Equal(got, []int{2, 1, 0}) {
		t.Errorf("popped %v after the caller changed the ranks", got)
	}
}

// P5.3
func TestEqualAndExtremeRanks(t *testing.T) {
	q := worklist.NewByRank([]int{math.MaxInt, 0, math.MinInt, 0, -1, math.MinInt, math.MaxInt, 1})
	for _, i := range []int{6, 3, 7, 5, 0, 1, 4, 2} {
		q.Push(i)
	}
	if got := popAll(q); !slices.Equal(got, []int{2, 5, 4, 1, 3, 7, 0, 6}) {
		t.Errorf("popped %v", got)
	}
}

// P5.2, P5.3
func TestPoppedIntegersCanBePushedAgain(t *testing.T) {
	for name, q := range map[string]*worklist.Queue{"New": worklist.New(2), "NewByRank": worklist.NewByRank([]int{7, 7})} {
		for range 10 {
			if !q.Push(1) || q.Push(1) || !q.Has(1) || q.Len() != 1 {
				t.Errorf("%s: 1 is not pushed once", name)
			}
			expectPop(t, q, 1, true)
			expectItems(t, q, 2)
			expectPop(t, q, 0, false)
		}
	}
}

// P5.2, P5.3
func TestRejectedPushesDoNothing(t *testing.T) {
	q, p := worklist.New(4), worklist.NewByRank([]int{4, 3, 2, 1})
	for _, i := range []int{3, 1, 3, -1, 4, 2, 1} {
		q.Push(i)
		p.Push(i)
	}
	expectItems(t, q, 4, 1, 2, 3)
	expectItems(t, p, 4, 1, 2, 3)
	if got := popAll(q); !slices.Equal(got, []int{3, 1, 2}) {
		t.Errorf("the first-in-first-out queue popped %v", got)
	}
	if got := popAll(p); !slices.Equal(got, []int{3, 2, 1}) {
		t.Errorf("the priority queue popped %v", got)
	}
}

// P5.2, P5.3, P5.4
func TestAgainstTheModel(t *testing.T) {
	r := rand.New(rand.NewSource(1))
	for n := range 40 {
		rank := someRanks(r, n)
		compare(t, r, worklist.New(n), &model{room: n})
		compare(t, r, worklist.NewByRank(rank), &model{room: n, rank: rank})
	}
}

// compare pushes and pops at random, for times more often the one and for times more often the other.
func compare(t *testing.T, r *rand.Rand, q *worklist.Queue, m *model) {
	t.Helper()
	for step := range 600 {
		pushes := 1 + step/50%3
		if r.Intn(4) < pushes {
			i := r.Intn(m.room+4) - 2
			if got, want := q.Push(i), m.push(i); got != want {
				t.Fatalf("room %d, ranks %v: Push(%d) = %v", m.room, m.rank, i, got)
			}
		} else {
			got, ok := q.Pop()
			if want, wantOK := m.pop(); got != want || ok != wantOK {
				t.Fatalf("room %d, ranks %v: Pop = %d, %v, want %d, %v", m.room, m.rank, got, ok, want, wantOK)
			}
		}
		expectItems(t, q, m.room, m.items...)
	}
}

// P5.5
func TestQueuesNotMade(t *testing.T) {
	made, ranked := worklist.New(5), worklist.NewByRank([]int{1, 2, 3, 4, 5})
	made.Push(1)
	ranked.Push(1)
	copied, copiedRanked := *made, *ranked
	for name, q := range map[string]*worklist.Queue{"nil": nil, "zero": {}, "copy": &copied, "copy with ranks": &copiedRanked} {
		for _, i := range []int{0, 1, 2, -1, 5, math.MaxInt} {
			if q.Push(i) || q.Has(i) {
				t.Errorf("%s: it takes %d", name, i)
			}
		}
		if q.Len() != 0 {
			t.Errorf("%s: Len %d", name, q.Len())
		}
		expectPop(t, q, 0, false)
	}
	expectItems(t, made, 5, 1)
	expectItems(t, ranked, 5, 1)
	expectPop(t, made, 1, true)
	expectPop(t, ranked, 1, true)
}

// P5.1
func TestQueuesAreIndependent(t *testing.T) {
	rank := []int{2, 1, 0}
	for _, create := range []func() *worklist.Queue{
		func() *worklist.Queue { return worklist.New(3) }, func() *worklist.Queue { return worklist.NewByRank(rank) },
	} {
		a, b := create(), create()
		a.Push(2)
		b.Push(1)
		expectItems(t, a, 3, 2)
		expectItems(t, b, 3, 1)
	}
}

// P5.6
func TestPriorityQueuePopsInOrderOfRank(t *testing.T) {
	r := rand.New(rand.NewSource(2))
	for range 200 {
		n := r.Intn(200)
		rank := someRanks(r, n)
		q := worklist.NewByRank(rank)
		for range n {
			q.Push(r.Intn(n))
		}
		size, popped := q.Len(), popAll(q)
		inOrder := slices.IsSortedFunc(popped, func(a, b int) int { return cmp.Compare(rank[a], rank[b]) })
		if len(popped) != size || !inOrder {
			t.Errorf("ranks %v: popped %v of %d", rank, popped, size)
		}
	}
}

// P5.7
func TestFirstInFirstOutQueuePopsInOrderOfPushes(t *testing.T) {
	r := rand.New(rand.NewSource(3))
	for range 200 {
		n := 1 + r.Intn(60)
		q := worklist.New(n)
		var pushed, popped []int
		for range 500 {
			if i := r.Intn(n); q.Push(i) {
				pushed = append(pushed, i)
			}
			if r.Intn(3) == 0 {
				if i, ok := q.Pop(); ok {
					popped = append(popped, i)
				}
			}
		}
		if popped = append(popped, popAll(q)...); !slices.Equal(popped, pushed) {
			t.Errorf("pushed %v, popped %v", pushed, popped)
		}
	}
}

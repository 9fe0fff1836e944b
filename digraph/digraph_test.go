package digraph_test

import (
	"math"
	"math/rand"
	"slices"
	"testing"

	"burnish/api"
	"burnish/digraph"
)

func graph(succs ...[]int) api.Graph {
	return api.Graph{Succs: succs}
}

// randomGraph returns a graph of n nodes with loops and multiple edges, which go forward only if it is to be acyclic.
func randomGraph(r *rand.Rand, n, edges int, acyclic bool) api.Graph {
	g := api.Graph{Succs: make([][]int, n)}
	for range edges {
		a, b := r.Intn(n), r.Intn(n)
		if acyclic && a >= b {
			continue
		}
		g.Succs[a] = append(g.Succs[a], b)
	}
	return g
}

// randomGraphs calls f with many small graphs.
func randomGraphs(seed int64, f func(g api.Graph)) {
	r := rand.New(rand.NewSource(seed))
	for range 400 {
		n := 1 + r.Intn(6)
		f(randomGraph(r, n, r.Intn(3*n), r.Intn(3) == 0))
	}
	for range 20 {
		n := 50 + r.Intn(100)
		f(randomGraph(r, n, r.Intn(3*n), r.Intn(3) == 0))
	}
}

func cloneLists(lists [][]int) [][]int {
	cloned := make([][]int, len(lists))
	for i, l := range lists {
		cloned[i] = slices.Clone(l)
	}
	return cloned
}

func equalLists(a, b [][]int) bool {
	return slices.EqualFunc(a, b, slices.Equal[[]int])
}

// The graph of example 1.
func diamond() api.Graph {
	return graph([]int{2, 1}, []int{3}, []int{3}, nil)
}

// Example 1
func TestExample(t *testing.T) {
	g := diamond()
	if got := digraph.Postorder(g, 0); !slices.Equal(got, []int{3, 2, 1, 0}) {
		t.Errorf("Postorder %v", got)
	}
	if got := digraph.ReversePostorder(g, 0); !slices.Equal(got, []int{0, 1, 2, 3}) {
		t.Errorf("ReversePostorder %v", got)
	}
	if got := digraph.ShortestPath(g, 0, 3); !slices.Equal(got, []int{0, 1, 3}) {
		t.Errorf("ShortestPath %v", got)
	}
}

// P6.1
func TestCheck(t *testing.T) {
	for name, c := range map[string]struct {
		g    api.Graph
		want api.Errno
	}{
		"nothing":            {api.Graph{}, api.OK},
		"no nodes":           {graph([][]int{}...), api.OK},
		"one node":           {graph(nil), api.OK},
		"a loop":             {graph([]int{0, 0}), api.OK},
		"the diamond":        {diamond(), api.OK},
		"a successor -1":     {graph([]int{1}, []int{-1}), api.ErrRange},
		"a successor n":      {graph([]int{1}, []int{0, 2}), api.ErrRange},
		"the least integer":  {graph([]int{math.MinInt}), api.ErrRange},
		"the greatest one":   {graph([]int{0, math.MaxInt}), api.ErrRange},
		"MaxNodes nodes":     {api.Graph{Succs: make([][]int, api.MaxNodes)}, api.OK},
		"more":               {api.Graph{Succs: make([][]int, api.MaxNodes+1)}, api.ErrLimit},
		"more, and a wrong":  {api.Graph{Succs: append(make([][]int, api.MaxNodes), []int{-1})}, api.ErrLimit},
		"a last one that is": {api.Graph{Succs: append(make([][]int, api.MaxNodes-1), []int{api.MaxNodes - 1})}, api.OK},
		"a last one wrong":   {api.Graph{Succs: append(make([][]int, api.MaxNodes-1), []int{api.MaxNodes})}, api.ErrRange},
	} {
		if got := digraph.Check(c.g); got != c.want {
			t.Errorf("%s: Check = %v, want %v", name, got, c.want)
		}
	}
}

// expectNoSearch checks that the functions that search from or to a node return zero values.
func expectNoSearch(t *testing.T, name string, g api.Graph, from, to int) {
	t.Helper()
	if path := digraph.ShortestPath(g, from, to); path != nil {
		t.Errorf("%s: ShortestPath %v", name, path)
	}
	if digraph.Check(g) == api.OK && from >= 0 && from < len(g.Succs) {
		return
	}
	reached, post, reverse := digraph.Reachable(g, from), digraph.Postorder(g, from), digraph.ReversePostorder(g, from)
	if reached != nil || post != nil || reverse != nil {
		t.Errorf("%s: Reachable %v, Postorder %v, ReversePostorder %v", name, reached, post, reverse)
	}
}

// Terms
func TestRejectedGraphs(t *testing.T) {
	large := api.Graph{Succs: make([][]int, api.MaxNodes+1)}
	for name, g := range map[string]api.Graph{
		"successor 2": graph([]int{1}, []int{0, 2}), "successor -1": graph([]int{-1, 1}, []int{0}), "far off": graph([]int{1}, nil, []int{9}), "large": large,
	} {
		if preds, reversed := digraph.Preds(g), digraph.Reverse(g); preds != nil || reversed.Succs != nil {
			t.Errorf("%s: Preds and Reverse return something", name)
		}
		expectNoSearch(t, name, g, 0, 0)
		expectNoSearch(t, name, g, 0, 1)
		expectNoSearch(t, name, g, -1, 9)
	}
}

// Terms
func TestStartsAndTargetsThatAreNoNodes(t *testing.T) {
	for _, i := range []int{-1, 4, 5, math.MinInt, math.MaxInt} {
		expectNoSearch(t, "start", diamond(), i, 3)
		expectNoSearch(t, "target", diamond(), 0, i)
		expectNoSearch(t, "both", diamond(), i, i)
	}
	expectNoSearch(t, "no nodes", api.Graph{}, 0, 0)
}

// P6.2
func TestPredsAndReverse(t *testing.T) {
	g := graph([]int{3, 1, 3}, []int{1, 0, 1}, nil, []int{0, 1, 3})
	if got, want := digraph.Preds(g), [][]int{{1, 3}, {0, 1, 3}, {}, {0, 3}}; !equalLists(got, want) {
		t.Errorf("Preds %v, want %v", got, want)
	}
	if got, want := digraph.Reverse(g).Succs, [][]int{{1, 3}, {0, 1, 1, 3}, {}, {0, 0, 3}}; !equalLists(got, want) {
		t.Errorf("Reverse %v, want %v", got, want)
	}
	if preds, reversed := digraph.Preds(api.Graph{}), digraph.Reverse(api.Graph{}); len(preds) != 0 || len(reversed.Succs) != 0 {
		t.Errorf("without nodes: %v and %v", preds, reversed)
	}
	if preds, reversed := digraph.Preds(graph(nil, nil)), digraph.Reverse(graph(nil, nil)); len(preds) != 2 || len(reversed.Succs) != 2 {
		t.Errorf("without edges: %v and %v", preds, reversed)
	}
}

// edges returns how many edges lead from each node to each other one.
func edges(g api.Graph) [][]int {
	count := make([][]int, len(g.Succs))
	for a, succs := range g.Succs {
		count[a] = make([]int, len(g.Succs))
		for _, b := range succs {
			count[a][b]++
		}
	}
	return count
}

// P6.2
func TestPredsAndReverseOfRandomGraphs(t *testing.T) {
	randomGraphs(1, func(g api.Graph) {
		count, preds, reversed := edges(g), digraph.Preds(g), digraph.Reverse(g).Succs
		for b := range g.Succs {
			var sources, entries []int
			for a := range g.Succs {
				if count[a][b] > 0 {
					sources = append(sources, a)
				}
				entries = append(entries, slices.Repeat([]int{a}, count[a][b])...)
			}
			if !slices.Equal(preds[b], sources) || !slices.Equal(reversed[b], entries) {
				t.Fatalf("%v, node %d: Preds %v, Reverse %v", g, b, preds[b], reversed[b])
			}
		}
	})
}

// postorder is the search as the document tells it.
func postorder(g api.Graph, from int) []int {
	var order []int
	visited := map[int]bool{}
	var visit func(node int)
	visit = func(node int) {
		visited[node] = true
		for _, succ := range g.Succs[node] {
			if !visited[succ] {
				visit(succ)
			}
		}
		order = append(order, node)
	}
	visit(from)
	return order
}

// P6.3
func TestDepthFirstOrders(t *testing.T) {
	for _, c := range []struct {
		g    api.Graph
		from int
		want []int
	}{
		{graph(nil), 0, []int{0}},
		{graph([]int{0, 0}), 0, []int{0}},
		{diamond(), 1, []int{3, 1}},
		{diamond(), 3, []int{3}},
		{graph([]int{1, 2}, []int{2}, []int{0, 1}), 0, []int{2, 1, 0}},
		{graph([]int{1, 2}, []int{2}, []int{0, 1}), 2, []int{1, 0, 2}},
		{graph([]int{4, 1}, []int{2}, []int{1, 5}, nil, []int{1, 0}, nil), 0, []int{5, 2, 1, 4, 0}},
		{graph([]int{2, 1}, nil, []int{3}, []int{0, 2, 1}), 0, []int{1, 3, 2, 0}},
	} {
		got, reversed := digraph.Postorder(c.g, c.from), digraph.ReversePostorder(c.g, c.from)
		if !slices.Equal(got, c.want) {
			t.Errorf("%v: Postorder from %d is %v, want %v", c.g, c.from, got, c.want)
		}
		if slices.Reverse(c.want); !slices.Equal(reversed, c.want) {
			t.Errorf("%v: ReversePostorder from %d is %v, want %v", c.g, c.from, reversed, c.want)
		}
	}
}

// P6.3
func TestSearchesOfRandomGraphs(t *testing.T) {
	randomGraphs(2, func(g api.Graph) {
		for from := range g.Succs {
			want := postorder(g, from)
			if got := digraph.Postorder(g, from); !slices.Equal(got, want) {
				t.Fatalf("%v: Postorder from %d is %v, want %v", g, from, got, want)
			}
			reached := digraph.Reachable(g, from)
			if len(reached) != len(g.Succs) {
				t.Fatalf("%v: Reachable from %d is %v", g, from, reached)
			}
			for node, got := range reached {
				if got != slices.Contains(want, node) {
					t.Fatalf("%v: Reachable from %d is %v", g, from, reached)
				}
			}
			slices.Reverse(want)
			if got := digraph.ReversePostorder(g, from); !slices.Equal(got, want) {
				t.Fatalf("%v: ReversePostorder from %d is %v, want %v", g, from, got, want)
			}
		}
	})
}

// P6.3, P6.4
func TestLongestPath(t *testing.T) {
	g := api.Graph{Succs: make([][]int, api.MaxNodes)}
	for node := range api.MaxNodes - 1 {
		g.Succs[node] = []int{node, node + 1, 0}
	}
	forward := digraph.ReversePostorder(g, 0)
	post, path := digraph.Postorder(g, 0), digraph.ShortestPath(g, 0, api.MaxNodes-1)
	reached := digraph.Reachable(g, 0)
	if len(forward) != api.MaxNodes || len(post) != api.MaxNodes || len(path) != api.MaxNodes {
		t.Fatalf("%d, %d and %d nodes", len(forward), len(post), len(path))
	}
	for node := range api.MaxNodes {
		if forward[node] != node || post[node] != api.MaxNodes-1-node || path[node] != node || !reached[node] {
			t.Fatalf("node %d is out of place", node)
		}
	}
}

// P6.4
func TestShortestPath(t *testing.T) {
	late := graph([]int{4, 1, 3}, []int{2}, []int{6}, []int{5}, []int{5}, []int{6}, nil)
	for _, c := range []struct {
		g        api.Graph
		from, to int
		want     []int
	}{
		{graph(nil), 0, 0, []int{0}},
		{graph([]int{0}), 0, 0, []int{0}},
		{diamond(), 2, 2, []int{2}},
		{diamond(), 2, 3, []int{2, 3}},
		{diamond(), 3, 0, nil},
		{diamond(), 1, 2, nil},
		{late, 0, 6, []int{0, 1, 2, 6}},
		{late, 0, 5, []int{0, 3, 5}},
		{graph([]int{2, 1, 3}, []int{2}, []int{3}, nil), 0, 3, []int{0, 3}}, // fewer nodes come before lesser ones
		{graph([]int{3, 1}, []int{4, 2}, nil, []int{2}, []int{2}), 0, 2, []int{0, 1, 2}},
	} {
		if got := digraph.ShortestPath(c.g, c.from, c.to); !slices.Equal(got, c.want) || (got == nil) != (c.want == nil) {
			t.Errorf("%v: ShortestPath from %d to %d is %v, want %v", c.g, c.from, c.to, got, c.want)
		}
	}
}

// bestPath tries all paths without repeated nodes.
func bestPath(g api.Graph, path []int, to int) []int {
	last := path[len(path)-1]
	if last == to {
		return slices.Clone(path)
	}
	var best []int
	for _, succ := range g.Succs[last] {
		if slices.Contains(path, succ) {
			continue
		}
		found := bestPath(g, append(path, succ), to)
		if found != nil && (best == nil || len(found) < len(best) || len(found) == len(best) && slices.Compare(found, best) < 0) {
			best = found
		}
	}
	return best
}

// P6.4
func TestShortestPathOfRandomGraphs(t *testing.T) {
	r := rand.New(rand.NewSource(3))
	for range 500 {
		n := 1 + r.Intn(8)
		g := randomGraph(r, n, r.Intn(4*n), false)
		for from := range n {
			for to := range n {
				got, want := digraph.ShortestPath(g, from, to), bestPath(g, []int{from}, to)
				if !slices.Equal(got, want) || (got == nil) != (want == nil) {
					t.Fatalf("%v: ShortestPath from %d to %d is %v, want %v", g, from, to, got, want)
				}
			}
		}
	}
}

// P6.5
func TestReversing(t *testing.T) {
	randomGraphs(4, func(g api.Graph) {
		reversed := digraph.Reverse(g)
		if twice := digraph.Reverse(reversed); !equalLists(edges(twice), edges(g)) {
			t.Fatalf("%v reversed twice is %v", g, twice)
		}
		back := make([][]bool, len(g.Succs))
		for b := range g.Succs {
			back[b] = digraph.Reachable(reversed, b)
		}
		for a := range g.Succs {
			for b, there := range digraph.Reachable(g, a) {
				if there != back[b][a] {
					t.Fatalf("%v: from %d to %d %v, back %v", g, a, b, there, back[b][a])
				}
			}
		}
	})
}

// P6.6
func TestReversePostorderGoesForward(t *testing.T) {
	randomGraphs(5, func(g api.Graph) {
		for from := range g.Succs {
			order := digraph.ReversePostorder(g, from)
			place := map[int]int{}
			for i, node := range order {
				place[node] = i
			}
			reached := digraph.Reachable(g, from)
			for node := range g.Succs {
				if _, found := place[node]; found != reached[node] {
					t.Fatalf("%v: from %d the order is %v", g, from, order)
				}
			}
			if len(place) != len(order) || order[0] != from || !forward(g, place, from) {
				t.Fatalf("%v: from %d the order is %v", g, from, order)
			}
		}
	})
}

// forward reports whether each reachable node but the start comes after one of its predecessors, and in an acyclic graph after all.
func forward(g api.Graph, place map[int]int, from int) bool {
	for node, i := range place {
		some, all := node == from, true
		for pred, succs := range g.Succs {
			if j, reachable := place[pred]; reachable && slices.Contains(succs, node) {
				some, all = some || j < i, all && j < i
			}
		}
		if !some || !all && acyclic(g) {
			return false
		}
	}
	return true
}

// acyclic takes away nodes without successors until none is left.
func acyclic(g api.Graph) bool {
	gone := map[int]bool{}
	for range g.Succs {
		for node, succs := range g.Succs {
			if !slices.ContainsFunc(succs, func(s int) bool { return !gone[s] }) {
				gone[node] = true
			}
		}
	}
	return len(gone) == len(g.Succs)
}

// Rule 4
func TestArgumentsAndAnswersAreApart(t *testing.T) {
	g := graph([]int{2, 1, 1}, []int{2, 0}, []int{2, 0})
	before := cloneLists(g.Succs)
	for range 2 {
		reversed, preds := digraph.Reverse(g), digraph.Preds(g)
		path, post := digraph.ShortestPath(g, 1, 2), digraph.Postorder(g, 0)
		reached := digraph.Reachable(g, 0)
		if !equalLists(g.Succs, before) {
			t.Fatalf("the graph is now %v", g)
		}
		if !equalLists(reversed.Succs, [][]int{{1, 2}, {0, 0}, {0, 1, 2}}) || !equalLists(preds, [][]int{{1, 2}, {0}, {0, 1, 2}}) ||
			!slices.Equal(path, []int{1, 2}) || !slices.Equal(post, []int{2, 1, 0}) || !slices.Equal(reached, []bool{true, true, true}) {
			t.Fatalf("%v: %v, %v, %v, %v, %v", g, reversed, preds, path, post, reached)
		}
		for _, lists := range [][][]int{reversed.Succs, preds, {path, post}} {
			for i := range lists { // appending to one list must not reach another
				lists[i] = append(lists[i], 77)
			}
			for _, l := range lists {
				if slices.Index(l, 77) != len(l)-1 {
					t.Fatalf("the lists of one answer share memory: %v", lists)
				}
				clear(l)
			}
		}
		clear(reached)
	}
}

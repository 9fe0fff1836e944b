package scc_test

import (
	"math"
	"math/rand"
	"slices"
	"testing"

	"burnish/api"
	"burnish/digraph"
	"burnish/scc"
)

func graph(succs ...[]int) api.Graph {
	return api.Graph{Succs: succs}
}

func equalLists(a, b [][]int) bool {
	return slices.EqualFunc(a, b, slices.Equal[[]int])
}

func cloneLists(lists [][]int) [][]int {
	cloned := make([][]int, len(lists))
	for i, l := range lists {
		cloned[i] = slices.Clone(l)
	}
	return cloned
}

// expect checks the answers of all functions for g.
func expect(t *testing.T, name string, g api.Graph, components [][]int, index []int, cyclic []bool) {
	t.Helper()
	if got := scc.Components(g); !equalLists(got, components) {
		t.Errorf("%s: Components %v, want %v", name, got, components)
	}
	if got := scc.Index(g); !slices.Equal(got, index) {
		t.Errorf("%s: Index %v, want %v", name, got, index)
	}
	if got := scc.OnCycle(g); !slices.Equal(got, cyclic) {
		t.Errorf("%s: OnCycle %v, want %v", name, got, cyclic)
	}
}

// Examples 1 and 2
func TestExamples(t *testing.T) {
	expect(t, "example 1", graph([]int{1}, []int{0, 2}, nil), [][]int{{2}, {0, 1}}, []int{1, 1, 0}, []bool{true, true, false})
	expect(t, "example 2", graph(nil, nil, nil), [][]int{{0}, {1}, {2}}, []int{0, 1, 2}, []bool{false, false, false})
}

// P7.1, P7.2
func TestSmallGraphs(t *testing.T) {
	no, yes := false, true
	expect(t, "no nodes", graph(), nil, nil, nil)
	expect(t, "one node", graph(nil), [][]int{{0}}, []int{0}, []bool{no})
	expect(t, "a loop", graph([]int{0}), [][]int{{0}}, []int{0}, []bool{yes})
	expect(t, "edges twice", graph([]int{1, 1}, []int{1, 1}), [][]int{{1}, {0}}, []int{1, 0}, []bool{no, yes})
	expect(t, "a chain", graph([]int{1}, []int{2}, nil), [][]int{{2}, {1}, {0}}, []int{2, 1, 0}, []bool{no, no, no})
	expect(t, "a chain back", graph(nil, []int{0}, []int{1}), [][]int{{0}, {1}, {2}}, []int{0, 1, 2}, []bool{no, no, no})
	expect(t, "two rings in one", graph([]int{2}, []int{2}, []int{3, 0}, []int{1}), [][]int{{0, 1, 2, 3}}, []int{0, 0, 0, 0}, []bool{yes, yes, yes, yes})
	// 3 is ready from the start, 0 only after 1: but once it is, it comes before 3.
	expect(t, "ready late", graph([]int{1}, nil, []int{1}, nil, []int{3}), [][]int{{1}, {0}, {2}, {3}, {4}}, []int{1, 0, 2, 3, 4}, []bool{no, no, no, no, no})
	expect(t, "ready later", graph([]int{3}, []int{4}, nil, nil, nil), [][]int{{2}, {3}, {0}, {4}, {1}}, []int{2, 4, 0, 1, 3}, []bool{no, no, no, no, no})
	// The component {1, 5} has the least node of those that are ready, {2, 4} the least greatest one.
	expect(t, "least nodes", graph([]int{3}, []int{5}, []int{4}, nil, []int{2}, []int{1}), [][]int{{1, 5}, {2, 4}, {3}, {0}}, []int{3, 0, 1, 2, 1, 0}, []bool{no, yes, yes, no, yes, yes})
}

// Functions: edges to numbers that are not nodes
func TestStrayEdgesAreIgnored(t *testing.T) {
	g := graph([]int{-1, 1, 3}, []int{math.MaxInt, 0, 2}, []int{3, math.MinInt, -2})
	expect(t, "stray edges", g, [][]int{{2}, {0, 1}}, []int{1, 1, 0}, []bool{true, true, false})
	expect(t, "no others", graph([]int{2}, []int{-1}), [][]int{{0}, {1}}, []int{0, 1}, []bool{false, false})
}

// Functions: more than MaxNodes nodes
func TestTooManyNodes(t *testing.T) {
	for _, g := range []api.Graph{
		{Succs: make([][]int, api.MaxNodes+1)},
		{Succs: append(make([][]int, api.MaxNodes), []int{0, api.MaxNodes, -1})},
		{Succs: make([][]int, 3*api.MaxNodes)},
	} {
		if components, index, cyclic := scc.Components(g), scc.Index(g), scc.OnCycle(g); components != nil || index != nil || cyclic != nil {
			t.Errorf("%d nodes: %d components, %d indices, %d on cycles", len(g.Succs), len(components), len(index), len(cyclic))
		}
	}
}

// naive finds the components by reachability, and their order as the document tells it.
type naive struct {
	reached [][]bool
	list    [][]int
	index   []int
}

func newNaive(g api.Graph) *naive {
	n := &naive{index: slices.Repeat([]int{-1}, len(g.Succs))}
	for node := range g.Succs {
		n.reached = append(n.reached, digraph.Reachable(g, node))
	}
	for node := n.next(g); node >= 0; node = n.next(g) {
		members := n.members(node)
		for _, member := range members {
			n.index[member] = len(n.list)
		}
		n.list = append(n.list, members)
	}
	return n
}

// next returns the least node whose component is ready and not in the list, or -1.
func (n *naive) next(g api.Graph) int {
	for node, i := range n.index {
		if i < 0 && n.ready(g, node) {
			return node
		}
	}
	return -1
}

func (n *naive) members(node int) []int {
	var members []int
	for other := range n.reached {
		if n.reached[node][other] && n.reached[other][node] {
			members = append(members, other)
		}
	}
	return members
}

// ready reports whether every edge that leaves the component of node leads to one that is in the list.
func (n *naive) ready(g api.Graph, node int) bool {
	members := n.members(node)
	for _, member := range members {
		for _, succ := range g.Succs[member] {
			if !slices.Contains(members, succ) && n.index[succ] < 0 {
				return false
			}
		}
	}
	return true
}

func (n *naive) cyclic(g api.Graph) []bool {
	cyclic := make([]bool, len(g.Succs))
	for node, succs := range g.Succs {
		cyclic[node] = slices.ContainsFunc(succs, func(succ int) bool { return n.reached[succ][node] })
	}
	return cyclic
}

// randomGraph returns a graph with loops and multiple edges.
func randomGraph(r *rand.Rand, n, edges int) api.Graph {
	g := api.Graph{Succs: make([][]int, n)}
	for range edges {
		a := r.Intn(n)
		g.Succs[a] = append(g.Succs[a], r.Intn(n))
	}
	return g
}

// randomGraphs calls f with many graphs, most of them small.
func randomGraphs(seed int64, f func(g api.Graph)) {
	r := rand.New(rand.NewSource(seed))
	for range 2000 {
		n := 1 + r.Intn(9)
		f(randomGraph(r, n, r.Intn(2*n+1)))
	}
	for range 30 {
		n := 20 + r.Intn(60)
		f(randomGraph(r, n, r.Intn(2*n)))
	}
}

// P7.1, P7.2
func TestRandomGraphs(t *testing.T) {
	randomGraphs(1, func(g api.Graph) {
		want := newNaive(g)
		if got := scc.Components(g); !equalLists(got, want.list) {
			t.Fatalf("%v: Components %v, want %v", g, got, want.list)
		}
		if got := scc.Index(g); !slices.Equal(got, want.index) {
			t.Fatalf("%v: Index %v, want %v", g, got, want.index)
		}
		if got := scc.OnCycle(g); !slices.Equal(got, want.cyclic(g)) {
			t.Fatalf("%v: OnCycle %v, want %v", g, got, want.cyclic(g))
		}
	})
}

// P7.3
func TestConsequences(t *testing.T) {
	randomGraphs(2, func(g api.Graph) {
		components, index, cyclic := scc.Components(g), scc.Index(g), scc.OnCycle(g)
		found := make([]int, len(g.Succs)) // how many components hold each node
		for i, members := range components {
			for _, member := range members {
				found[member]++
				if index[member] != i {
					t.Fatalf("%v: Components %v, Index %v", g, components, index)
				}
			}
		}
		for a, succs := range g.Succs {
			if found[a] != 1 {
				t.Fatalf("%v: node %d is in %d components", g, a, found[a])
			}
			if cyclic[a] != (len(components[index[a]]) > 1 || slices.Contains(succs, a)) {
				t.Fatalf("%v: node %d is on a cycle: %v", g, a, cyclic[a])
			}
			for _, b := range succs {
				if index[b] > index[a] {
					t.Fatalf("%v: the edge from %d to %d goes from component %d to %d", g, a, b, index[a], index[b])
				}
			}
		}
	})
}

// Rule 1: deep searches, and many components that become ready together
func TestLargestGraphs(t *testing.T) {
	const n = api.MaxNodes
	chain, ring, star := make([][]int, n), make([][]int, n), make([][]int, n)
	for node := range n {
		ring[node] = []int{(node + 1) % n}
		star[node] = []int{0, n - 1}
		if node+1 < n {
			chain[node] = []int{node + 1, node + 1, n - 1}
		}
	}
	star[0], star[n-1] = nil, nil
	if index := scc.Index(api.Graph{Succs: chain}); len(index) != n || index[0] != n-1 || index[1] != n-2 || index[n-1] != 0 {
		t.Error("the components of a chain are out of order")
	}
	if components := scc.Components(api.Graph{Succs: ring}); len(components) != 1 || len(components[0]) != n || components[0][n-1] != n-1 {
		t.Error("a ring is more than one component")
	}
	if cyclic := scc.OnCycle(api.Graph{Succs: ring}); len(cyclic) != n || slices.Contains(cyclic, false) {
		t.Error("a ring is not a cycle")
	}
	if index := scc.Index(api.Graph{Succs: star}); len(index) != n || index[0] != 0 || index[n-1] != 1 || index[1] != 2 || index[n-2] != n-1 {
		t.Error("the components of a star are out of order")
	}
}

// Rules 4 and 5
func TestArgumentsAndAnswersAreApart(t *testing.T) {
	g := graph([]int{1, -1, 7}, []int{0, 2, 2}, []int{2}, []int{4, 1}, []int{3})
	before := cloneLists(g.Succs)
	for range 2 {
		components, index, cyclic := scc.Components(g), scc.Index(g), scc.OnCycle(g)
		if !equalLists(g.Succs, before) {
			t.Fatalf("the graph is now %v", g)
		}
		if !equalLists(components, [][]int{{2}, {0, 1}, {3, 4}}) || !slices.Equal(index, []int{1, 1, 0, 2, 2}) || slices.Contains(cyclic, false) {
			t.Fatalf("%v, %v, %v", components, index, cyclic)
		}
		for i := range components { // appending to one list must not reach another
			components[i] = append(components[i], 77)
		}
		for _, members := range components {
			if slices.Index(members, 77) != len(members)-1 {
				t.Fatalf("the lists of one answer share memory: %v", components)
			}
			clear(members)
		}
		clear(index)
		clear(cyclic)
	}
}

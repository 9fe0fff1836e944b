package domfrontier_test

import (
	"slices"
	"testing"

	"burnish/api"
	"burnish/domfrontier"
	"burnish/domtree"
)

// most and half are numbers of nodes.
const (
	most = api.MaxNodes
	half = most / 2
)

// numbers returns the integers from first to before end.
func numbers(first, end int) []int {
	var list []int
	for i := first; i < end; i++ {
		list = append(list, i)
	}
	return list
}

// chain returns a graph in which each node leads to the next one.
func chain() api.Graph {
	g := api.Graph{Succs: make([][]int, most)}
	for node := range most - 1 {
		g.Succs[node] = []int{node + 1}
	}
	return g
}

// Rule 1: a deep tree, in which every node's frontier is found at the far end
func TestDeepTree(t *testing.T) {
	g := chain()
	g.Succs[most-1] = []int{0, most - 1}
	frontier := domfrontier.Build(g, domtree.Build(g, 0))
	for node, list := range frontier {
		want := []int{0}
		if node == most-1 {
			want = []int{0, most - 1}
		}
		if !slices.Equal(list, want) {
			t.Fatalf("the frontier of %d is %v", node, list)
		}
	}
	if got := domfrontier.Iterated(frontier, []int{half}); !slices.Equal(got, []int{0}) {
		t.Errorf("Iterated %v", got)
	}
}

// Rule 1: many nodes whose edges lead to one node, below a long common way
func TestManyPredecessors(t *testing.T) {
	g := chain()
	g.Succs[0] = []int{1, most - 1}
	g.Succs[half] = numbers(half+1, most-1)
	for node := half + 1; node < most-1; node++ {
		g.Succs[node] = []int{most - 1}
	}
	for node, list := range domfrontier.Build(g, domtree.Build(g, 0)) {
		if at := node != 0 && node != most-1; at != slices.Equal(list, []int{most - 1}) || !at && len(list) > 0 {
			t.Fatalf("the frontier of %d is %v", node, list)
		}
	}
}

// Bounds: the frontier of each node contains it and all nodes above it, which are too many for Build
func TestJoinPointsOfLargeFrontiers(t *testing.T) {
	g := chain()
	g.Succs[most-1] = numbers(0, most)
	idom := domtree.Build(g, 0)
	if got := domfrontier.JoinPoints(g, idom, []int{half}); !slices.Equal(got, numbers(0, half+1)) {
		t.Errorf("of one node there are %d", len(got))
	}
	if got := domfrontier.JoinPoints(g, idom, numbers(0, most)); !slices.Equal(got, numbers(0, most)) {
		t.Errorf("of all nodes there are %d", len(got))
	}
}

// Rule 1: each node of a long way down is found after the one above it only
func TestJoinPointsFromAboveToBelow(t *testing.T) {
	g, idom := api.Graph{Succs: make([][]int, most)}, make([]int, most)
	for node := 2; node < half; node++ {
		beside := half + node // a child of the node above this one
		idom[node], idom[beside] = node-1, node-1
		g.Succs[node] = []int{beside}
		if node < half-1 {
			g.Succs[beside] = []int{node + 1}
		}
	}
	want := append(numbers(3, half), numbers(half+2, most)...)
	if got := domfrontier.JoinPoints(g, idom, []int{2}); !slices.Equal(got, want) {
		t.Errorf("%d nodes, want %d", len(got), len(want))
	}
}

// P9.2: there may be more frontiers than a graph has nodes
func TestManyFrontiers(t *testing.T) {
	const many = 3 * most
	frontier := make([][]int, many)
	for n := range frontier {
		frontier[n] = []int{n + 1, n / 2}
	}
	if got := domfrontier.Iterated(frontier, []int{many - 1}); !slices.Equal(got, numbers(0, many+1)) {
		t.Errorf("%d elements", len(got))
	}
}

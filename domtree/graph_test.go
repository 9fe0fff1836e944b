package domtree_test

import (
	"math"
	"math/rand"
	"slices"
	"testing"

	"burnish/api"
	"burnish/digraph"
	"burnish/domtree"
)

func graph(succs ...[]int) api.Graph {
	return api.Graph{Succs: succs}
}

func equalLists(a, b [][]int) bool {
	return slices.EqualFunc(a, b, slices.Equal[[]int])
}

func cloneLists(lists [][]int) [][]int {
	cloned := make([][]int, len(lists))
	for i, l := range lists {
		cloned[i] = slices.Clone(l)
	}
	return cloned
}

// randomGraph returns a graph with loops and multiple edges.
func randomGraph(r *rand.Rand, n, edges int) api.Graph {
	g := api.Graph{Succs: make([][]int, n)}
	for range edges {
		a := r.Intn(n)
		g.Succs[a] = append(g.Succs[a], r.Intn(n))
	}
	return g
}

// randomGraphs calls f with many graphs, most of them small.
func randomGraphs(seed int64, f func(g api.Graph)) {
	r := rand.New(rand.NewSource(seed))
	for range 1500 {
		n := 1 + r.Intn(9)
		f(randomGraph(r, n, r.Intn(3*n+1)))
	}
	for range 20 {
		n := 15 + r.Intn(25)
		f(randomGraph(r, n, n+r.Intn(2*n)))
	}
}

// without returns g without the edges from a node.
func without(g api.Graph, node int) api.Graph {
	succs := slices.Clone(g.Succs)
	succs[node] = nil
	return api.Graph{Succs: succs}
}

// dominance tells for each two nodes a and b whether a dominates b: every path to
// another node b contains a if there is none without an edge from a.
func dominance(g api.Graph, entry int) [][]bool {
	dominates := make([][]bool, len(g.Succs))
	reached := digraph.Reachable(g, entry)
	for a := range dominates {
		dominates[a] = make([]bool, len(g.Succs))
		left := digraph.Reachable(without(g, a), entry)
		for b := range g.Succs {
			dominates[a][b] = reached[a] && reached[b] && (a == b || a == entry || !left[b])
		}
	}
	return dominates
}

// immediate returns what the document calls the immediate dominator of b, or -1.
func immediate(dominates [][]bool, b int) int {
	found := -1
	for a := range dominates {
		if a == b || !dominates[a][b] {
			continue
		}
		nearest := true
		for other := range dominates {
			nearest = nearest && (other == b || !dominates[other][b] || dominates[other][a])
		}
		if nearest {
			found = a
		}
	}
	return found
}

// idoms returns the answer of Build by the definitions.
func idoms(g api.Graph, entry int) []int {
	dominates := dominance(g, entry)
	want := make([]int, len(g.Succs))
	for b := range want {
		want[b] = immediate(dominates, b)
	}
	want[entry] = entry
	return want
}

// Example 1
func TestExample1(t *testing.T) {
	idom := domtree.Build(graph([]int{1, 2}, []int{3}, []int{3}, []int{1}), 0)
	if !slices.Equal(idom, []int{0, 0, 0, 0}) {
		t.Errorf("Build %v", idom)
	}
	if got := domtree.CommonDominator(idom, 1, 2); got != 0 {
		t.Errorf("CommonDominator %d", got)
	}
	if got := domtree.Preorder(idom); !slices.Equal(got, []int{0, 1, 2, 3}) {
		t.Errorf("Preorder %v", got)
	}
}

// Example 2
func TestExample2(t *testing.T) {
	if got := domtree.PostDominators(graph([]int{1}, []int{2}, nil)); !slices.Equal(got, []int{1, 2, 3, 3}) {
		t.Errorf("PostDominators %v", got)
	}
}

// P8.1
func TestBuild(t *testing.T) {
	for _, c := range []struct {
		g     api.Graph
		entry int
		want  []int
	}{
		{graph(nil), 0, []int{0}},
		{graph([]int{0, 0}), 0, []int{0}},
		{graph(nil, nil), 1, []int{-1, 1}},
		{graph([]int{1, 1}, []int{0}), 0, []int{0, 0}},
		{graph([]int{1, 1}, []int{0}), 1, []int{1, 1}},
		{graph([]int{1, 2}, []int{3}, []int{3}, nil), 0, []int{0, 0, 0, 0}},
		{graph([]int{1}, []int{2, 3}, []int{4}, []int{4}, []int{1, 5}, nil), 0, []int{0, 0, 1, 1, 1, 4}},
		{graph([]int{1}, []int{2}, []int{1}, []int{2}), 0, []int{0, 0, 1, -1}}, // an edge from an unreachable node does not count
		{graph([]int{1, 2}, []int{3}, []int{4}, []int{4}, []int{3}), 0, []int{0, 0, 0, 0, 0}},
		{graph([]int{1, 3}, []int{2}, []int{3}, []int{4}, []int{5, 1}, nil), 0, []int{0, 0, 1, 0, 3, 4}},
	} {
		if got := domtree.Build(c.g, c.entry); !slices.Equal(got, c.want) {
			t.Errorf("%v: Build from %d is %v, want %v", c.g, c.entry, got, c.want)
		}
	}
}

// The graph of the paper of Lengauer and Tarjan: its nodes R, A to L are 0 to 12.
func TestBuildOfAnIrreducibleGraph(t *testing.T) {
	const R, A, B, C, D, E, F, G, H, I, J, K, L = 0, 1, 2, 3, 4, 5, 6, 7, 8, 9, 10, 11, 12
	g := graph([]int{A, B, C}, []int{D}, []int{A, D, E}, []int{F, G}, []int{L}, []int{H}, []int{I}, []int{I, J}, []int{E, K}, []int{K}, []int{I}, []int{I, R}, []int{H})
	want := []int{R, R, R, R, R, R, C, C, R, R, G, R, D}
	if got := domtree.Build(g, R); !slices.Equal(got, want) {
		t.Errorf("Build %v, want %v", got, want)
	}
}

// P8.1
func TestBuildOfRandomGraphs(t *testing.T) {
	randomGraphs(1, func(g api.Graph) {
		for entry := range min(len(g.Succs), 9) {
			got, want := domtree.Build(g, entry), idoms(g, entry)
			if !slices.Equal(got, want) {
				t.Fatalf("%v: Build from %d is %v, want %v", g, entry, got, want)
			}
		}
	})
}

// P8.1, P8.3
func TestRejectedGraphs(t *testing.T) {
	for name, g := range map[string]api.Graph{
		"successor 2":  graph([]int{1}, []int{0, 2}),
		"successor -1": graph([]int{1}, []int{-1}),
		"unreachable":  graph(nil, []int{math.MaxInt}),
		"too large":    {Succs: make([][]int, api.MaxNodes+1)},
	} {
		if idom := domtree.Build(g, 0); len(idom) != 0 {
			t.Errorf("%s: Build returns %d elements", name, len(idom))
		}
		if idom := domtree.PostDominators(g); len(idom) != 0 {
			t.Errorf("%s: PostDominators returns %d elements", name, len(idom))
		}
	}
}

// P8.1
func TestEntriesThatAreNoNodes(t *testing.T) {
	for _, entry := range []int{-1, 2, 3, math.MinInt, math.MaxInt} {
		if idom := domtree.Build(graph([]int{1}, []int{0}), entry); len(idom) != 0 {
			t.Errorf("Build from %d is %v", entry, idom)
		}
	}
	if idom := domtree.Build(api.Graph{}, 0); len(idom) != 0 {
		t.Errorf("Build of no nodes is %v", idom)
	}
}

// P8.3
func TestPostDominators(t *testing.T) {
	for _, c := range []struct {
		g    api.Graph
		want []int
	}{
		{graph(), []int{0}},
		{graph(nil), []int{1, 1}},
		{graph([]int{0}), []int{-1, 1}},
		{graph([]int{1, 2}, []int{3}, []int{3}, nil), []int{3, 3, 3, 4, 4}},
		{graph([]int{1, 2}, nil, nil), []int{3, 3, 3, 3}},
		{graph([]int{1, 2, 2}, []int{1}, nil), []int{2, -1, 3, 3}}, // node 1 never gets out
		{graph([]int{1, 2}, []int{0}, nil), []int{2, 0, 3, 3}},
	} {
		if got := domtree.PostDominators(c.g); !slices.Equal(got, c.want) {
			t.Errorf("%v: PostDominators %v, want %v", c.g, got, c.want)
		}
	}
}

// backward returns the graph whose dominators PostDominators returns.
func backward(g api.Graph) api.Graph {
	n := len(g.Succs)
	b := api.Graph{Succs: make([][]int, n+1)}
	for v, succs := range g.Succs {
		for _, w := range succs {
			b.Succs[w] = append(b.Succs[w], v)
		}
		if len(succs) == 0 {
			b.Succs[n] = append(b.Succs[n], v)
		}
	}
	return b
}

// P8.3
func TestPostDominatorsOfRandomGraphs(t *testing.T) {
	randomGraphs(2, func(g api.Graph) {
		got, want := domtree.PostDominators(g), idoms(backward(g), len(g.Succs))
		if !slices.Equal(got, want) {
			t.Fatalf("%v: PostDominators %v, want %v", g, got, want)
		}
	})
}

// P8.3
func TestPostDominatorsNeedRoomForANode(t *testing.T) {
	if idom := domtree.PostDominators(api.Graph{Succs: make([][]int, api.MaxNodes)}); len(idom) != 0 {
		t.Errorf("MaxNodes nodes: %d elements", len(idom))
	}
	const last = api.MaxNodes - 1
	chain := make([][]int, last)
	for node := range last - 1 {
		chain[node] = []int{node + 1}
	}
	idom := domtree.PostDominators(api.Graph{Succs: chain})
	if len(idom) != api.MaxNodes {
		t.Errorf("MaxNodes-1 nodes: %d elements", len(idom))
	}
	for node, up := range idom {
		if up != min(node+1, last) {
			t.Fatalf("node %d of a chain is postdominated by %d", node, up)
		}
	}
}

// P8.4, P8.5, P8.6
func TestConsequences(t *testing.T) {
	randomGraphs(3, func(g api.Graph) {
		entry := len(g.Succs) / 2
		idom, dominates := domtree.Build(g, entry), dominance(g, entry)
		if root, ok := rootOf(idom); !ok || root != entry {
			t.Fatalf("%v: Build from %d is %v", g, entry, idom)
		}
		reached := digraph.Reachable(g, entry)
		for a := range g.Succs {
			left := digraph.Reachable(without(g, a), entry)
			for b := range g.Succs {
				got := domtree.Dominates(idom, a, b)
				if got != dominates[a][b] {
					t.Fatalf("%v: Dominates(Build from %d, %d, %d) is %v", g, entry, a, b, got)
				}
				if a != entry && a != b && got != (reached[b] && !left[b]) {
					t.Fatalf("%v: from %d, removing %d does not make unreachable what it dominates", g, entry, a)
				}
			}
		}
	})
}

// expectIdoms checks the answer of Build for a large graph, from node 0.
func expectIdoms(t *testing.T, name string, succs [][]int, want func(node int) int) {
	t.Helper()
	idom := domtree.Build(api.Graph{Succs: succs}, 0)
	if len(idom) != len(succs) {
		t.Errorf("%s: %d elements", name, len(idom))
	}
	for node, got := range idom {
		if got != want(node) {
			t.Errorf("%s: the immediate dominator of %d is %d, not %d", name, node, got, want(node))
			return
		}
	}
}

// Rule 1: a deep search, and many long ways up the tree
func TestLargestGraphs(t *testing.T) {
	const n, half = api.MaxNodes, api.MaxNodes / 2
	chain, ladder, fan := make([][]int, n), make([][]int, n), make([][]int, n)
	for node := range n - 1 {
		chain[node] = []int{node + 1, node, 0, max(node-1, 0)}
		ladder[node] = []int{node + 1, max(node-1, 0), n - 1 - node}
		if node < half-1 {
			fan[node] = []int{node + 1}
		}
	}
	for node := half; node < n; node++ {
		fan[0], fan[half-1] = append(fan[0], node), append(fan[half-1], node)
	}
	for node := range n { // the way up from the last node is longer each time
		chain[n-1] = append(chain[n-1], node)
	}
	expectIdoms(t, "chain", chain, func(node int) int { return max(node-1, 0) })
	expectIdoms(t, "ladder", ladder, func(node int) int {
		if node <= 1 || node == n-1 {
			return 0
		}
		return 1
	})
	expectIdoms(t, "fan", fan, func(node int) int {
		if node < half {
			return max(node-1, 0)
		}
		return 0
	})
}

// Rules 4 and 5
func TestGraphsAreNotChanged(t *testing.T) {
	g := graph([]int{2, 1, 1}, []int{2, 0, 3}, []int{2, 3}, nil)
	before := cloneLists(g.Succs)
	for range 2 {
		idom, post := domtree.Build(g, 0), domtree.PostDominators(g)
		if !equalLists(g.Succs, before) {
			t.Fatalf("the graph is now %v", g)
		}
		if !slices.Equal(idom, []int{0, 0, 0, 0}) || !slices.Equal(post, []int{3, 3, 3, 4, 4}) {
			t.Fatalf("Build %v, PostDominators %v", idom, post)
		}
		idom[3], post[3] = 77, 77
	}
}

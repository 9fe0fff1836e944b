package loopinfo_test

import (
	"math/rand"
	"slices"
	"testing"

	"burnish/api"
	"burnish/digraph"
	"burnish/loopinfo"
	"burnish/scc"
)

// randomGraphs calls f with many graphs, most of them small, and a node of each. They
// have some edges to numbers that are not nodes.
func randomGraphs(seed int64, f func(g api.Graph, entry int)) {
	r := rand.New(rand.NewSource(seed))
	for i := range 5000 {
		n := 1 + r.Intn(8)
		if i%100 == 0 {
			n += 20
		}
		g := api.Graph{Succs: make([][]int, n)}
		for range r.Intn(2*n + 3) {
			from, to := r.Intn(n), r.Intn(n)
			if r.Intn(12) == 0 {
				to = r.Intn(3*n) - n
			}
			g.Succs[from] = append(g.Succs[from], to)
		}
		f(g, r.Intn(n))
	}
}

// definitions holds what the document's definitions speak of, for one graph and entry.
type definitions struct {
	g         api.Graph // without the edges that are ignored
	entry     int
	reached   []bool
	dominates [][]bool
}

// without returns g without the edges from a node and those to it.
func without(g api.Graph, node int) api.Graph {
	return only(g, func(from, to int) bool { return from != node && to != node })
}

func only(g api.Graph, wanted func(from, to int) bool) api.Graph {
	left := api.Graph{Succs: make([][]int, len(g.Succs))}
	for from, succs := range g.Succs {
		for _, to := range succs {
			if wanted(from, to) {
				left.Succs[from] = append(left.Succs[from], to)
			}
		}
	}
	return left
}

func define(g api.Graph, entry int) definitions {
	d := definitions{entry: entry, dominates: make([][]bool, len(g.Succs))}
	d.g = only(g, func(_, to int) bool { return to >= 0 && to < len(g.Succs) })
	d.reached = digraph.Reachable(d.g, entry)
	for h := range d.dominates {
		d.dominates[h] = make([]bool, len(g.Succs))
		left := digraph.Reachable(without(d.g, h), entry)
		for n := range g.Succs {
			d.dominates[h][n] = d.reached[h] && d.reached[n] && (n == h || h == entry || !left[n])
		}
	}
	return d
}

func (d definitions) isBackEdge(n, h int) bool {
	return slices.Contains(d.g.Succs[n], h) && d.dominates[h][n]
}

// nodes returns those nodes for which ok holds.
func (d definitions) nodes(ok func(node int) bool) []int {
	var nodes []int
	for node := range d.g.Succs {
		if ok(node) {
			nodes = append(nodes, node)
		}
	}
	return nodes
}

// loop returns the loop with a header, but for its parent and depth, or false if there is none.
func (d definitions) loop(header int) (api.Loop, bool) {
	latches := d.nodes(func(n int) bool { return d.isBackEdge(n, header) })
	rest := without(d.g, header)
	blocks := d.nodes(func(n int) bool {
		leads := digraph.Reachable(rest, n)
		return n == header || d.reached[n] && slices.ContainsFunc(latches, func(latch int) bool { return latch != header && leads[latch] })
	})
	exits := d.nodes(func(n int) bool {
		leaves := slices.ContainsFunc(d.g.Succs[n], func(succ int) bool { return !slices.Contains(blocks, succ) })
		return slices.Contains(blocks, n) && leaves
	})
	return api.Loop{Header: header, Blocks: blocks, Latches: latches, Exits: exits}, len(latches) > 0
}

// parent returns the index of the parent of a loop.
func parent(loops []api.Loop, of int) int {
	found := -1
	for i, loop := range loops {
		if i != of && slices.Contains(loop.Blocks, loops[of].Header) && (found == -1 || len(loop.Blocks) < len(loops[found].Blocks)) {
			found = i
		}
	}
	return found
}

func (d definitions) loops() []api.Loop {
	var loops []api.Loop
	for header := range d.g.Succs {
		if loop, ok := d.loop(header); ok {
			loops = append(loops, loop)
		}
	}
	for i := range loops {
		loops[i].Parent, loops[i].Depth = parent(loops, i), 1
		for up := loops[i].Parent; up != -1; up = parent(loops, up) {
			loops[i].Depth++
		}
	}
	return loops
}

func (d definitions) reducible() bool {
	left := only(d.g, func(from, to int) bool { return d.reached[from] && !d.isBackEdge(from, to) })
	return !slices.Contains(scc.OnCycle(left), true)
}

func (d definitions) cycleHeaders() []int {
	order := digraph.ReversePostorder(d.g, d.entry)
	return d.nodes(func(m int) bool {
		return slices.ContainsFunc(d.nodes(func(n int) bool { return slices.Contains(d.g.Succs[n], m) }), func(n int) bool {
			return d.reached[n] && slices.Index(order, m) <= slices.Index(order, n)
		})
	})
}

// P10.1, P10.3
func TestRandomGraphs(t *testing.T) {
	found, irreducible := 0, 0
	randomGraphs(1, func(g api.Graph, entry int) {
		d := define(g, entry)
		loops := d.loops()
		expect(t, "a random graph", g, entry, loops, d.reducible(), d.cycleHeaders())
		if t.Failed() {
			t.Fatalf("%v, entry %d", g, entry)
		}
		found += len(loops)
		if !d.reducible() {
			irreducible++
		}
	})
	if found < 2000 || irreducible < 100 {
		t.Errorf("only %d loops and %d irreducible graphs", found, irreducible)
	}
}

// P10.2
func TestInnermostOfRandomLists(t *testing.T) {
	r := rand.New(rand.NewSource(2))
	for range 3000 {
		n := 1 + r.Intn(6)
		loops := make([]api.Loop, r.Intn(5))
		for i := range loops {
			loops[i].Depth = r.Intn(5) - 1
			for range r.Intn(5) {
				loops[i].Blocks = append(loops[i].Blocks, r.Intn(n+2)-1)
			}
		}
		got := loopinfo.Innermost(loops, n)
		for node := range n {
			want := -1
			for i, loop := range loops {
				if slices.Contains(loop.Blocks, node) && (want == -1 || loop.Depth > loops[want].Depth) {
					want = i
				}
			}
			if len(got) != n || got[node] != want {
				t.Fatalf("%v: Innermost %v; node %d is in %d", loops, got, node, want)
			}
		}
	}
}

// common returns how many elements of a are in b.
func common(a, b []int) int {
	count := 0
	for _, i := range a {
		if slices.Contains(b, i) {
			count++
		}
	}
	return count
}

// P10.4
func TestConsequences(t *testing.T) {
	randomGraphs(3, func(g api.Graph, entry int) {
		loops := loopinfo.Loops(g, entry)
		dominates := define(g, entry).dominates
		var headers []int
		for i, loop := range loops {
			headers = append(headers, loop.Header)
			for _, block := range loop.Blocks {
				if !dominates[loop.Header][block] {
					t.Fatalf("%v: the header of %v does not dominate %d", g, loop, block)
				}
			}
			for _, other := range loops[:i] {
				both := common(loop.Blocks, other.Blocks)
				if both != 0 && both != len(loop.Blocks) && both != len(other.Blocks) {
					t.Fatalf("%v: the loops %v and %v overlap", g, loop, other)
				}
			}
		}
		if loopinfo.Reducible(g, entry) && !slices.Equal(loopinfo.CycleHeaders(g, entry), headers) {
			t.Fatalf("%v: CycleHeaders %v, but the loops have the headers %v", g, loopinfo.CycleHeaders(g, entry), headers)
		}
	})
}

// nestOf returns the graph of some loops, each in the one before, with one path
// through all the headers and back through all the latches, and a long way on.
func nestOf(depth, nodes int) api.Graph {
	g := api.Graph{Succs: make([][]int, nodes)}
	for node := range nodes - 1 {
		g.Succs[node] = []int{node + 1}
	}
	for header := range depth {
		latch := 2*depth - 1 - header
		g.Succs[latch] = append(g.Succs[latch], header)
	}
	return g
}

// Rule 1: a graph of MaxNodes nodes, and loops nested deep
func TestLargestGraphs(t *testing.T) {
	const depth, nodes = 500, api.MaxNodes
	g := nestOf(depth, nodes)
	for node := 2 * depth; node < nodes; node++ { // one more loop, with many latches
		g.Succs[node] = append(g.Succs[node], 2*depth)
	}
	loops := loopinfo.Loops(g, 0)
	if len(loops) != depth+1 {
		t.Fatalf("%d loops", len(loops))
	}
	for i, loop := range loops[:depth] {
		if loop.Header != i || loop.Parent != i-1 || loop.Depth != i+1 || len(loop.Blocks) != 2*(depth-i) || !slices.Equal(loop.Exits, []int{2*depth - 1 - i}) {
			t.Fatalf("loop %d is %v", i, loop)
		}
	}
	if last := loops[depth]; last.Parent != -1 || len(last.Blocks) != nodes-2*depth || len(last.Latches) != nodes-2*depth || len(last.Exits) != 0 {
		t.Errorf("the last loop has %d blocks, %d latches and %d exits", len(last.Blocks), len(last.Latches), len(last.Exits))
	}
	if headers := loopinfo.CycleHeaders(g, 0); len(headers) != depth+1 || !loopinfo.Reducible(g, 0) {
		t.Errorf("%d headers", len(headers))
	}
	if innermost := loopinfo.Innermost(loops, nodes); innermost[depth] != depth-1 || innermost[2*depth-1] != 0 || innermost[nodes-1] != depth {
		t.Errorf("the nodes %d, %d and %d are in %d, %d and %d", depth, 2*depth-1, nodes-1, innermost[depth], innermost[2*depth-1], innermost[nodes-1])
	}
	g.Succs[0] = append(g.Succs[0], depth/2)
	if loopinfo.Reducible(g, 0) {
		t.Error("a loop with two entries is reducible")
	}
}

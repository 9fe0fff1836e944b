package domfrontier_test

import (
	"math/rand"
	"slices"
	"testing"

	"burnish/api"
	"burnish/domfrontier"
	"burnish/domtree"
)

// trial is a graph with a dominator tree shape, and some numbers that are nodes for the most part.
type trial struct {
	g     api.Graph
	idom  []int
	nodes []int
}

// randomTree returns a tree of some of n nodes that has nothing to do with any graph.
func randomTree(r *rand.Rand, n int) []int {
	idom := slices.Repeat([]int{-1}, n)
	order := r.Perm(n)
	size := 1 + r.Intn(n)
	for i, node := range order[:size] {
		idom[node] = order[r.Intn(max(i, 1))]
	}
	return idom
}

func randomTrial(r *rand.Rand, n, edges int) trial {
	c := trial{g: api.Graph{Succs: make([][]int, n)}}
	for range edges {
		from := r.Intn(n)
		c.g.Succs[from] = append(c.g.Succs[from], r.Intn(n))
	}
	c.idom = domtree.Build(c.g, r.Intn(n))
	if r.Intn(2) == 0 {
		c.idom = randomTree(r, n)
	}
	for range r.Intn(4) {
		c.nodes = append(c.nodes, r.Intn(n+2)-1)
	}
	return c
}

// randomTrials calls f with many trials, most of them small.
func randomTrials(seed int64, f func(c trial)) {
	r := rand.New(rand.NewSource(seed))
	for range 6000 {
		n := 1 + r.Intn(8)
		f(randomTrial(r, n, r.Intn(2*n+2)))
	}
	for range 60 {
		n := 20 + r.Intn(40)
		f(randomTrial(r, n, r.Intn(3*n)))
	}
}

// inFrontier tells whether m is in the frontier of n, by the document's words.
func (c trial) inFrontier(n, m int) bool {
	if c.idom[m] == -1 || n != m && domtree.Dominates(c.idom, n, m) {
		return false
	}
	for p, succs := range c.g.Succs {
		if slices.Contains(succs, m) && domtree.Dominates(c.idom, n, p) {
			return true
		}
	}
	return false
}

func (c trial) frontier() [][]int {
	frontier := make([][]int, len(c.idom))
	for n := range c.idom {
		for m := range c.idom {
			if c.inFrontier(n, m) {
				frontier[n] = append(frontier[n], m)
			}
		}
	}
	return frontier
}

// closed adds elements of frontiers to a set until there are none to add.
func closed(frontier [][]int, nodes []int) []int {
	var set []int
	for size := -1; size != len(set); {
		size = len(set)
		for _, n := range slices.Concat(nodes, set) {
			if n >= 0 && n < len(frontier) {
				set = append(set, frontier[n]...)
			}
		}
		slices.Sort(set)
		set = slices.Compact(set)
	}
	return set
}

// P9.1
func TestRandomBuilds(t *testing.T) {
	randomTrials(1, func(c trial) {
		got, want := domfrontier.Build(c.g, c.idom), c.frontier()
		if !equal(got, want) {
			t.Fatalf("%v: Build %v, want %v", c, got, want)
		}
	})
}

// P9.2
func TestRandomIterations(t *testing.T) {
	r := rand.New(rand.NewSource(2))
	for range 5000 {
		n := r.Intn(8)
		frontier := make([][]int, n)
		for range r.Intn(2*n + 1) {
			at := r.Intn(n)
			frontier[at] = append(frontier[at], r.Intn(n+4)-2)
		}
		var nodes []int
		for range r.Intn(3) {
			nodes = append(nodes, r.Intn(n+2)-1)
		}
		got, want := domfrontier.Iterated(frontier, nodes), closed(frontier, nodes)
		if !slices.Equal(got, want) {
			t.Fatalf("%v: Iterated of %v is %v, want %v", frontier, nodes, got, want)
		}
	}
}

// P9.3, P9.4
func TestRandomJoinPoints(t *testing.T) {
	randomTrials(3, func(c trial) {
		got, want := domfrontier.JoinPoints(c.g, c.idom, c.nodes), closed(c.frontier(), c.nodes)
		if !slices.Equal(got, want) {
			t.Fatalf("%v: JoinPoints %v, want %v", c, got, want)
		}
		if iterated := domfrontier.Iterated(domfrontier.Build(c.g, c.idom), c.nodes); !slices.Equal(got, iterated) {
			t.Fatalf("%v: JoinPoints %v, Iterated of Build %v", c, got, iterated)
		}
	})
}

// paths calls f with the nodes, as bits, and the last node of each path with an edge
// that starts at a node and contains none twice, but for the first as the last.
func paths(g api.Graph, start int, f func(nodes uint, last int)) {
	var walk func(nodes uint, at int)
	walk = func(nodes uint, at int) {
		for _, succ := range g.Succs[at] {
			if nodes&(1<<succ) == 0 {
				f(nodes|1<<succ, succ)
				walk(nodes|1<<succ, succ)
			} else if succ == start {
				f(nodes, succ)
			}
		}
	}
	walk(1<<start, start)
}

// meetings returns the nodes at which two paths from different nodes of starts meet for the first time.
func meetings(g api.Graph, starts []int) []int {
	found := make([][]map[uint]bool, len(g.Succs)) // by start and last node: the paths' nodes
	for _, start := range starts {
		found[start] = make([]map[uint]bool, len(g.Succs))
		for last := range found[start] {
			found[start][last] = map[uint]bool{}
		}
		paths(g, start, func(nodes uint, last int) { found[start][last][nodes] = true })
	}
	var met []int
	for m := range g.Succs {
		apart := func(a, b int) bool {
			for first := range found[a][m] {
				for second := range found[b][m] {
					if first&second == 1<<m {
						return true
					}
				}
			}
			return false
		}
		for _, a := range starts {
			if slices.ContainsFunc(starts, func(b int) bool { return a < b && apart(a, b) }) {
				met = append(met, m)
			}
		}
	}
	return slices.Compact(met)
}

// P9.5
func TestPathsMeetAtJoinPoints(t *testing.T) {
	r := rand.New(rand.NewSource(4))
	count := 0
	for range 2500 {
		n := 1 + r.Intn(6)
		g := randomTrial(r, n, n+r.Intn(n+2)).g
		root := r.Intn(n)
		idom := domtree.Build(g, root)
		starts := []int{root}
		for node := range n {
			if node != root && idom[node] != -1 && r.Intn(2) == 0 {
				starts = append(starts, node)
			}
		}
		joins := domfrontier.JoinPoints(g, idom, starts)
		for _, m := range meetings(g, starts) {
			count++
			if m != root && !slices.Contains(joins, m) {
				t.Fatalf("%v: from %v paths meet at %d, JoinPoints %v", g, starts, m, joins)
			}
		}
	}
	if count < 1000 {
		t.Errorf("paths met %d times only", count)
	}
}

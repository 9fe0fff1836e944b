package domfrontier

import (
	"iter"
	"slices"

	"burnish/api"
	"burnish/digraph"
	"burnish/domtree"
)

// tree is a dominator tree shape, with the places of its nodes in its preorder: in
// that order a node stands in front of all the others that it dominates, and these
// stand together.
type tree struct {
	idom       []int
	order      []int // the nodes in the tree, in preorder
	first, end []int // node n dominates the nodes at the places in [first[n], end[n]), which are none if it is not in the tree
}

// newTree returns nil if g is rejected, or idom is not a dominator tree shape for it.
func newTree(g api.Graph, idom []int) *tree {
	if digraph.Check(g) != api.OK || len(idom) != len(g.Succs) {
		return nil
	}
	order := domtree.Preorder(idom)
	if len(order) == 0 {
		return nil
	}
	t := &tree{idom: idom, order: order, first: make([]int, len(idom)), end: make([]int, len(idom))}
	for place, node := range order {
		t.first[node], t.end[node] = place, place+1
	}
	for _, node := range slices.Backward(order) {
		up := idom[node]
		t.end[up] = max(t.end[up], t.end[node])
	}
	return t
}

func (t *tree) has(node int) bool {
	return t.first[node] < t.end[node]
}

// strictlyDominates expects two nodes in the tree.
func (t *tree) strictlyDominates(a, b int) bool {
	return t.first[a] < t.first[b] && t.first[b] < t.end[a]
}

// holders returns an iterator over the nodes whose frontier contains m because of
// its predecessor pred, on the way up from pred. All that is above a node that
// strictly dominates m does so too.
func (t *tree) holders(pred, m int) iter.Seq[int] {
	return func(yield func(int) bool) {
		if !t.has(pred) || !t.has(m) {
			return
		}
		for n := pred; !t.strictlyDominates(n, m) && yield(n) && t.idom[n] != n; {
			n = t.idom[n]
		}
	}
}

package domtree

import (
	"burnish/api"
)

// spanning is a depth-first spanning tree of the reachable nodes. It calls each
// one by its place in the order in which the search entered them: the entry is 0.
type spanning struct {
	nodes  []int // the node of each place
	places []int // the place of each node, or none
	parent []int // the parent of each place; 0 for the entry
}

// span searches a graph that has no more than MaxNodes nodes, which is not too deep for a recursion.
func span(g api.Graph, entry int) spanning {
	t := spanning{places: make([]int, len(g.Succs))}
	for node := range t.places {
		t.places[node] = none
	}
	var visit func(node, parent int)
	visit = func(node, parent int) {
		place := len(t.nodes)
		t.places[node] = place
		t.nodes = append(t.nodes, node)
		t.parent = append(t.parent, parent)
		for _, succ := range g.Succs[node] {
			if t.places[succ] == none {
				visit(succ, place)
			}
		}
	}
	visit(entry, 0)
	return t
}

// immediateDominators returns the immediate dominator of each place, and 0 for the
// entry. It is the algorithm of Lengauer and Tarjan: the semidominator of a place
// is the least one from which a path leads to it through greater places only. It
// is the immediate dominator, unless some place between the two in the tree has a
// lesser semidominator; then the least such place has the same immediate dominator.
func (t spanning) immediateDominators(preds [][]int) []int {
	size := len(t.nodes)
	semi := make([]int, size)
	for place := range semi {
		semi[place] = place
	}
	f := newForest(semi)
	dominator := make([]int, size)
	waiting := make([][]int, size) // the places with this semidominator
	for place := size - 1; place > 0; place-- {
		for _, pred := range preds[t.nodes[place]] {
			if from := t.places[pred]; from != none {
				semi[place] = min(semi[place], semi[f.least(from)])
			}
		}
		waiting[semi[place]] = append(waiting[semi[place]], place)
		parent := t.parent[place]
		f.link(place, parent)
		for _, below := range waiting[parent] {
			dominator[below] = parent
			if least := f.least(below); semi[least] < parent {
				dominator[below] = least
			}
		}
		waiting[parent] = nil
	}
	for place := 1; place < size; place++ {
		if dominator[place] != semi[place] {
			dominator[place] = dominator[dominator[place]]
		}
	}
	return dominator
}

// forest holds the edges of a spanning tree that have been linked so far. It
// answers which place on the way up from another one has the least semidominator.
type forest struct {
	semi []int
	up   []int // an ancestor of each place, or none for a root
	best []int // the place with the least semidominator from this one to the one below up
}

func newForest(semi []int) *forest {
	f := &forest{semi: semi, up: make([]int, len(semi)), best: make([]int, len(semi))}
	for place := range semi {
		f.up[place], f.best[place] = none, place
	}
	return f
}

// link adds the edge to a root from its parent.
func (f *forest) link(root, parent int) {
	f.up[root] = parent
}

// least returns the place with the least semidominator on the way from a place up
// to below its root, or the place itself if it is a root. It makes that way short
// for the next time.
func (f *forest) least(place int) int {
	var shorten func(place int)
	shorten = func(place int) {
		up := f.up[place]
		if up == none || f.up[up] == none {
			return
		}
		shorten(up)
		if f.semi[f.best[up]] < f.semi[f.best[place]] {
			f.best[place] = f.best[up]
		}
		f.up[place] = f.up[up]
	}
	shorten(place)
	return f.best[place]
}

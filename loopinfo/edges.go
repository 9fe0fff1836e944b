package loopinfo

import (
	"maps"
	"slices"

	"burnish/api"
	"burnish/digraph"
	"burnish/domtree"
)

// reachablePart returns g with those edges only that lead from reachable nodes to
// nodes, or false if g is too large or entry is not a node.
func reachablePart(g api.Graph, entry int) (api.Graph, bool) {
	nodes := len(g.Succs)
	if nodes > api.MaxNodes || entry < 0 || entry >= nodes {
		return api.Graph{}, false
	}
	g = keep(g, func(_, to int) bool { return to >= 0 && to < nodes })
	reached := digraph.Reachable(g, entry)
	return keep(g, func(from, _ int) bool { return reached[from] }), true
}

// keep returns the graph of those edges of g for which wanted holds.
func keep(g api.Graph, wanted func(from, to int) bool) api.Graph {
	kept := make([][]int, len(g.Succs))
	for from, succs := range g.Succs {
		for _, to := range succs {
			if wanted(from, to) {
				kept[from] = append(kept[from], to)
			}
		}
	}
	return api.Graph{Succs: kept}
}

// backEdges returns for each node the sources of the back edges to it, sorted. All
// nodes with edges must be reachable.
func backEdges(g api.Graph, entry int) [][]int {
	idom := domtree.Build(g, entry)
	depths := domtree.Depths(idom)
	way := make([]int, len(g.Succs)) // the node at each depth that dominates the current one
	sources := make([][]int, len(g.Succs))
	for _, node := range domtree.Preorder(idom) {
		way[depths[node]] = node
		for _, succ := range g.Succs[node] {
			if depths[succ] <= depths[node] && way[depths[succ]] == succ {
				sources[succ] = append(sources[succ], node)
			}
		}
	}
	for node, list := range sources {
		slices.Sort(list)
		sources[node] = slices.Compact(list)
	}
	return sources
}

// retreats returns, sorted, the targets of the edges that do not go forward in
// reverse postorder. There are none if and only if the graph has no cycle. All
// nodes with edges must be reachable.
func retreats(g api.Graph, entry int) []int {
	place := make([]int, len(g.Succs))
	for i, node := range digraph.ReversePostorder(g, entry) {
		place[node] = i
	}
	targets := map[int]bool{}
	for node, succs := range g.Succs {
		for _, succ := range succs {
			if place[succ] <= place[node] {
				targets[succ] = true
			}
		}
	}
	return slices.Sorted(maps.Keys(targets))
}

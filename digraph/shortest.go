package digraph

import (
	"burnish/api"
)

// unreached is the distance of a node that no path reaches.
const unreached = -1

// ShortestPath returns a path with the fewest nodes, of those the lexicographically smallest, or nil if there is none.
func ShortestPath(g api.Graph, from, to int) []int {
	if Check(g) != api.OK || !isNode(g, from) || !isNode(g, to) {
		return nil
	}
	left := distances(Reverse(g), to) // the edges that each node is away from the target
	if left[from] == unreached {
		return nil
	}
	path := []int{from}
	for node := from; node != to; {
		node = least(g.Succs[node], func(succ int) bool { return left[succ] == left[node]-1 })
		path = append(path, node)
	}
	return path
}

// distances returns for each node the number of edges of a shortest path to it from the start.
func distances(g api.Graph, from int) []int {
	dist := make([]int, len(g.Succs))
	for node := range dist {
		dist[node] = unreached
	}
	dist[from] = 0
	for queue := []int{from}; len(queue) > 0; queue = queue[1:] {
		for _, succ := range g.Succs[queue[0]] {
			if dist[succ] == unreached {
				dist[succ] = dist[queue[0]] + 1
				queue = append(queue, succ)
			}
		}
	}
	return dist
}

// least returns the least of the nodes that are wanted, of which there must be one.
func least(nodes []int, wanted func(node int) bool) int {
	found := -1
	for _, node := range nodes {
		if wanted(node) && (found < 0 || node < found) {
			found = node
		}
	}
	return found
}

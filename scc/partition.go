package scc

import (
	"burnish/api"
)

// none stands for the number of a component that has none yet.
const none = -1

// partition returns the number of each node's component, and how many components
// there are. They are numbered in the order of their least nodes.
func partition(g api.Graph) (number []int, count int) {
	first := firstMembers(g)
	named := make([]int, len(first)) // the number of the component whose first member this is
	for node := range named {
		named[node] = none
	}
	number = make([]int, len(first))
	for node, member := range first {
		if named[member] == none {
			named[member] = count
			count++
		}
		number[node] = named[member]
	}
	return number, count
}

// firstMembers returns for each node the one of its component that a depth-first
// search enters first. It is Tarjan's algorithm: a node is the first member if it
// reaches no open node that was entered before it, and the other members are then
// the open nodes that were entered after it.
func firstMembers(g api.Graph) []int {
	nodes := len(g.Succs)
	closed := nodes + 1
	entered := 0
	turn := make([]int, nodes) // counts the entered nodes; 0 for a node that is not entered yet
	low := make([]int, nodes)  // the least turn of an open node that is known to be reachable; closed if the node is not open any more
	first := make([]int, nodes)
	var open []int // the entered nodes whose component is not complete, in the order of their turns
	enter := func(node int) bool {
		if turn[node] != 0 {
			return false
		}
		entered++
		turn[node], low[node] = entered, entered
		open = append(open, node)
		return true
	}
	compare := func(node, succ int) {
		low[node] = min(low[node], low[succ])
	}
	leave := func(node int) {
		if low[node] != turn[node] {
			return
		}
		at := len(open) - 1
		for open[at] != node {
			at--
		}
		for _, member := range open[at:] {
			first[member], low[member] = node, closed
		}
		open = open[:at]
	}
	depthFirst(g, enter, compare, leave)
	return first
}

// depthFirst visits every node. It calls enter to learn whether a node is new,
// compare for each edge once the search has left the node that it leads to, unless
// that is still being visited, and leave for each node after its successors. It
// keeps the path to the current node in a list, since a path of MaxNodes nodes is
// deep for a recursion.
func depthFirst(g api.Graph, enter func(node int) bool, compare func(node, succ int), leave func(node int)) {
	tried := make([]int, len(g.Succs)) // how many successors of each node the search is done with
	var path []int
	for start := range g.Succs {
		if enter(start) {
			path = append(path, start)
		}
	search:
		for len(path) > 0 {
			last := len(path) - 1
			node := path[last]
			for tried[node] < len(g.Succs[node]) {
				succ := g.Succs[node][tried[node]]
				if enter(succ) {
					path = append(path, succ)
					continue search // which comes back to this edge
				}
				compare(node, succ)
				tried[node]++
			}
			leave(node)
			path = path[:last]
		}
	}
}

package domtree

import (
	"iter"
	"slices"
)

// ancestors returns an iterator over a node that is in the tree, its element, the
// element of that, and so on up to the root.
func ancestors(idom []int, node int) iter.Seq[int] {
	return func(yield func(int) bool) {
		for at := node; yield(at) && idom[at] != at; {
			at = idom[at]
		}
	}
}

func inTree(idom []int, i int) bool {
	return i >= 0 && i < len(idom) && idom[i] != none
}

func isTree(idom []int) bool {
	return len(Depths(idom)) > 0
}

// isLinked reports whether idom has one root, and elements that are -1 or indices
// in the tree. These may still lead round in a circle.
func isLinked(idom []int) bool {
	roots := 0
	for node, up := range idom {
		if up != none && !inTree(idom, up) {
			return false
		}
		if up == node {
			roots++
		}
	}
	return roots == 1
}

// Depths returns for each index the number of steps to the root, or -1 if it is not in the tree.
func Depths(idom []int) []int {
	if !isLinked(idom) {
		return nil
	}
	const climbed = none - 1 // marks the way up from an index until the depths on it are known
	depths := make([]int, len(idom))
	for node := range depths {
		depths[node] = none
	}
	for node := range idom {
		if !inTree(idom, node) {
			continue
		}
		var way []int
		for up := range ancestors(idom, node) {
			if depths[up] == climbed {
				return nil
			}
			if depths[up] != none {
				break
			}
			depths[up] = climbed
			way = append(way, up)
		}
		for _, below := range slices.Backward(way) {
			depths[below] = 0
			if up := idom[below]; up != below {
				depths[below] = depths[up] + 1
			}
		}
	}
	return depths
}

// Dominates reports whether a and b are in the tree and a is b or an ancestor of b.
func Dominates(idom []int, a, b int) bool {
	if !isTree(idom) || !inTree(idom, a) || !inTree(idom, b) {
		return false
	}
	for up := range ancestors(idom, b) {
		if up == a {
			return true
		}
	}
	return false
}

// CommonDominator returns the deepest index that dominates both a and b, or -1 if one of them is not in the tree.
func CommonDominator(idom []int, a, b int) int {
	if !isTree(idom) || !inTree(idom, a) || !inTree(idom, b) {
		return none
	}
	aboveA := make([]bool, len(idom))
	for up := range ancestors(idom, a) {
		aboveA[up] = true
	}
	for up := range ancestors(idom, b) {
		if aboveA[up] {
			return up
		}
	}
	return none
}

// Children returns for each index the other indices whose element it is, sorted.
func Children(idom []int) [][]int {
	if !isTree(idom) {
		return nil
	}
	children := make([][]int, len(idom))
	for node, up := range idom {
		if up != none && up != node {
			children[up] = append(children[up], node)
		}
	}
	return children
}

// Preorder returns the root and then the preorders of its children's subtrees, the
// least child's first. It keeps what is to come in a list, since the tree may have
// any depth: it need not come from a graph.
func Preorder(idom []int) []int {
	var order, next []int
	children := Children(idom)
	for node := range children {
		if idom[node] == node {
			next = append(next, node)
		}
	}
	for len(next) > 0 {
		last := len(next) - 1
		node := next[last]
		order = append(order, node)
		next = next[:last]
		for _, child := range slices.Backward(children[node]) {
			next = append(next, child)
		}
	}
	return order
}

package ssaform

import (
	"slices"

	"burnish/api"
	"burnish/cfg"
	"burnish/domtree"
)

// Precedes reports whether a is executed before b on every path to b.
func Precedes(f api.Func, a, b api.Pos) bool {
	return contains(f, a) && contains(f, b) && precedes(dominance(f), a, b)
}

// precedes is Precedes for positions of the function that dominates is about.
func precedes(dominates func(a, b int) bool, a, b api.Pos) bool {
	return dominates(a.Block, b.Block) && (a.Block != b.Block || a.Index < b.Index)
}

// contains reports whether a position is in f.
func contains(f api.Func, at api.Pos) bool {
	return at.Block >= 0 && at.Block < len(f.Blocks) && at.Index >= -1 && at.Index <= len(f.Blocks[at.Block].Instrs)
}

// dominance returns a function that reports of two blocks of f whether the first one
// dominates the second one. It looks up two places, where domtree.Dominates would
// look through the whole tree at each call.
func dominance(f api.Func) func(a, b int) bool {
	idom := domtree.Build(cfg.Graph(f), 0)
	order := domtree.Preorder(idom)
	place := make([]int, len(f.Blocks)) // where each block is in the order
	size := make([]int, len(f.Blocks))  // how many blocks its subtree has, which follow it there; 0 if it is unreachable
	for i, block := range slices.Backward(order) {
		place[block] = i
		size[block]++
		if i > 0 {
			size[idom[block]] += size[block]
		}
	}
	return func(a, b int) bool {
		return size[b] > 0 && place[a] <= place[b] && place[b] < place[a]+size[a]
	}
}

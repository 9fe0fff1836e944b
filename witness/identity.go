package witness

import (
	"burnish/api"
	"burnish/cfg"
	"burnish/domtree"
)

// Identity returns the witness that dst goes through its blocks as src goes through
// those with the same numbers, each register holding what that with the same number
// holds, unless extra tells otherwise.
func Identity(src, dst api.Func, extra []api.Invariant) api.Witness {
	idom := domtree.Build(cfg.Graph(dst), 0)
	number := map[int]int{} // of the cut point at each block that has one
	var blocks []int
	for block := range min(len(dst.Blocks), len(src.Blocks)) {
		if isReachable(idom, block) {
			number[block] = len(blocks)
			blocks = append(blocks, block)
		}
	}
	w := api.Witness{CutPoints: CutPoints(src, dst, blocks, blocks, identity(len(dst.Regs)), extra)}
	for start, block := range blocks {
		succs := dst.Blocks[block].Term.Succs
		for i, edge := range succs {
			if end, found := number[edge.Block]; found {
				w.Paths = append(w.Paths, step(start, i, end))
			}
		}
		if len(succs) == 0 {
			w.Paths = append(w.Paths, step(start, theEnd, theEnd))
		}
	}
	return w
}

// identity returns the list of the numbers from 0 to n-1.
func identity(n int) []int {
	list := make([]int, n)
	for i := range list {
		list[i] = i
	}
	return list
}

// step returns the path that takes the successor with the given index in both functions.
func step(start, index, end int) api.Path {
	return api.Path{Start: start, Target: []int{index}, Source: []int{index}, End: end}
}

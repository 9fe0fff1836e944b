package liveness

import (
	"cmp"
	"iter"
	"math"
	"slices"

	"burnish/api"
	"burnish/cfg"
)

// web is what a search backward through a function needs to know. It is searched
// for one register at a time, so that the work grows with the answer, and with no
// bound for the numbers of registers and blocks.
type web struct {
	preds      [][]int     // the predecessors of each block, sorted
	defs, uses [][]api.Pos // the positions that write and that read each register, in order
}

func newWeb(f api.Func) web {
	return web{preds: predecessors(cfg.Graph(f)), defs: cfg.Defs(f), uses: cfg.Uses(f)}
}

// predecessors returns the predecessors of each node, sorted. It ignores edges to what is no node.
func predecessors(g api.Graph) [][]int {
	preds := make([][]int, len(g.Succs))
	for node, succs := range g.Succs {
		for _, succ := range succs {
			if succ >= 0 && succ < len(preds) && !endsWith(preds[succ], node) {
				preds[succ] = append(preds[succ], node)
			}
		}
	}
	return preds
}

func endsWith(list []int, i int) bool {
	return len(list) > 0 && list[len(list)-1] == i
}

// liveIn iterates over the blocks before whose position -1 register r is live.
func (w web) liveIn(r int) iter.Seq[int] {
	var readers []int
	for _, use := range w.uses[r] {
		if use.Index <= firstWrite(w.defs[r], use.Block) && !endsWith(readers, use.Block) {
			readers = append(readers, use.Block)
		}
	}
	return upstream(w.preds, readers, func(block int) bool {
		return firstWrite(w.defs[r], block) == never
	})
}

// never is later than every index of a block.
const never = math.MaxInt

// firstWrite returns the least index at which a block writes the register that defs is about, or never.
func firstWrite(defs []api.Pos, block int) int {
	i, _ := slices.BinarySearchFunc(defs, block, func(def api.Pos, block int) int {
		return cmp.Compare(def.Block, block)
	})
	if i == len(defs) || defs[i].Block != block {
		return never
	}
	return defs[i].Index
}

// upstream iterates over the given blocks and those from which a path leads to one
// of them through blocks for which transfer, which tells whether what is live behind
// a block is live before it, returns true. It yields each block once.
func upstream(preds [][]int, blocks []int, transfer func(block int) bool) iter.Seq[int] {
	return func(yield func(int) bool) {
		if len(blocks) == 0 {
			return // most registers are live in no block
		}
		seen := make([]bool, len(preds))
		for _, block := range blocks {
			seen[block] = true
		}
		for waiting := slices.Clone(blocks); len(waiting) > 0; {
			last := len(waiting) - 1
			block := waiting[last]
			waiting = waiting[:last]
			if !yield(block) {
				return
			}
			for _, pred := range preds[block] {
				if !seen[pred] && transfer(pred) {
					waiting = append(waiting, pred)
				}
				seen[pred] = true
			}
		}
	}
}

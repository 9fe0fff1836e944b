package ssaform

import (
	"slices"

	"burnish/api"
	"burnish/cfg"
	"burnish/digraph"
)

// Compact returns f without its unreachable blocks, and with no registers but those
// that are written, numbered in the order in which they are. It returns a copy of f
// if f is not in SSA form or a reachable block mentions what is no register.
func Compact(f api.Func) api.Func {
	if !IsSSA(f) {
		return duplicate(f)
	}
	kept, number := reachable(f)
	perm, count, ok := order(kept)
	if !ok {
		return duplicate(f)
	}
	g := cfg.Permute(kept, perm)
	g.Regs = g.Regs[:count:count]
	for _, b := range g.Blocks {
		for i := range b.Term.Succs {
			edge := &b.Term.Succs[i]
			edge.Block = number[edge.Block]
		}
	}
	return g
}

// duplicate returns a copy of f.
func duplicate(f api.Func) api.Func {
	return cfg.Permute(f, nil)
}

// reachable returns f with its reachable blocks only, in the same memory and with
// edges as they were, and the number that each of these blocks has got.
func reachable(f api.Func) (kept api.Func, number []int) {
	reached := digraph.Reachable(cfg.Graph(f), 0)
	number = make([]int, len(f.Blocks))
	kept = f
	kept.Blocks = nil
	for block, b := range f.Blocks {
		if reached[block] {
			number[block] = len(kept.Blocks)
			kept.Blocks = append(kept.Blocks, b)
		}
	}
	return kept, number
}

// order returns the permutation that puts the registers that f writes first, in the
// order in which they are written, and their number. It returns false if f writes
// what is no register. It need not look at what f reads: in SSA form that is written too.
func order(f api.Func) (perm []int, count int, ok bool) {
	perm = slices.Repeat([]int{-1}, len(f.Regs))
	foreign := find(f, func(at api.Pos) bool {
		for _, r := range cfg.Writes(f, at) {
			if r < 0 || r >= len(perm) {
				return true
			}
			perm[r] = count
			count++
		}
		return false
	})
	if foreign != nowhere {
		return nil, 0, false
	}
	next := count
	for r := range perm {
		if perm[r] < 0 {
			perm[r] = next
			next++
		}
	}
	return perm, count, true
}

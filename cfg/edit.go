package cfg

import (
	"burnish/api"
)

// SplitEdge returns a copy of f with a new block on the edge from a block to its
// successor with number succ, or false if there is no such edge.
func SplitEdge(f api.Func, block, succ int) (api.Func, bool) {
	if !isIndex(block, len(f.Blocks)) || !isIndex(succ, len(f.Blocks[block].Term.Succs)) {
		return api.Func{}, false
	}
	f = duplicate(f)
	edge := &f.Blocks[block].Term.Succs[succ]
	middle := api.Block{Term: api.Terminator{Kind: api.Jump, Succs: []api.Edge{*edge}}}
	*edge = api.Edge{Block: len(f.Blocks)}
	f.Blocks = copied(f.Blocks, middle)
	return f, true
}

// NewReg returns a copy of f with one more register, and its number.
func NewReg(f api.Func, t api.Type) (api.Func, int) {
	r := len(f.Regs)
	f = duplicate(f)
	f.Regs = copied(f.Regs, t)
	return f, r
}

// Permute returns a copy of f in which register r has become perm[r], or a mere copy if perm is not a permutation.
func Permute(f api.Func, perm []int) api.Func {
	if !isPermutation(perm, len(f.Regs)) {
		return duplicate(f)
	}
	g := rebuild(f, func(r int) int {
		if !isIndex(r, len(perm)) {
			return r
		}
		return perm[r]
	})
	for r, t := range f.Regs {
		g.Regs[perm[r]] = t
	}
	return g
}

// isPermutation reports whether perm contains each number from 0 to n-1 once.
func isPermutation(perm []int, n int) bool {
	seen := make([]bool, n)
	for _, r := range perm {
		if !isIndex(r, n) || seen[r] {
			return false
		}
		seen[r] = true
	}
	return len(perm) == n
}

// duplicate returns a copy of f.
func duplicate(f api.Func) api.Func {
	return rebuild(f, func(r int) int { return r })
}

// rebuild returns a copy of f in which renamed has been applied wherever a register occurs, but for the list of types.
func rebuild(f api.Func, renamed func(r int) int) api.Func {
	f.Name = string([]byte(f.Name)) // nothing of a result is kept in the memory of an argument
	f.Params = mapped(f.Params, renamed)
	f.Regs = copied(f.Regs)
	f.Blocks = mapped(f.Blocks, func(b api.Block) api.Block { return rebuildBlock(b, renamed) })
	return f
}

func rebuildBlock(b api.Block, renamed func(r int) int) api.Block {
	b.Params = mapped(b.Params, renamed)
	b.Instrs = mapped(b.Instrs, func(in api.Instr) api.Instr {
		in.Dst = renamed(in.Dst)
		in.Args = mapped(in.Args, renamed)
		return in
	})
	b.Term.Args = mapped(b.Term.Args, renamed)
	b.Term.Cases = copied(b.Term.Cases)
	b.Term.Succs = mapped(b.Term.Succs, func(e api.Edge) api.Edge {
		e.Args = mapped(e.Args, renamed)
		return e
	})
	return b
}

// mapped returns the list of what change makes of the elements of a list.
func mapped[T any](list []T, change func(T) T) []T {
	changed := copied(list)
	for i, x := range changed {
		changed[i] = change(x)
	}
	return changed
}

// copied returns a copy of list, with more elements behind it. Its capacity ends where
// it ends, so that nothing that is appended to it is stored in memory of another list.
func copied[T any](list []T, more ...T) []T {
	c := append(append(list[:0:0], list...), more...)
	return c[:len(c):len(c)]
}

package verify

import (
	"slices"

	"burnish/api"
)

// Equal reports whether all fields of two modules are equal. A nil slice equals an empty one.
func Equal(a, b api.Module) bool {
	return slices.EqualFunc(a.Globals, b.Globals, equalGlobal) && slices.EqualFunc(a.Funcs, b.Funcs, EqualFunc)
}

// EqualFunc reports whether all fields of two functions are equal. A nil slice equals an empty one.
func EqualFunc(a, b api.Func) bool {
	return a.Name == b.Name && a.Result == b.Result &&
		slices.Equal(a.Params, b.Params) && slices.Equal(a.Regs, b.Regs) &&
		slices.EqualFunc(a.Blocks, b.Blocks, equalBlock)
}

func equalGlobal(a, b api.Global) bool {
	return a.Name == b.Name && a.Elem == b.Elem && a.Len == b.Len && a.ReadOnly == b.ReadOnly && slices.Equal(a.Init, b.Init)
}

func equalBlock(a, b api.Block) bool {
	return slices.Equal(a.Params, b.Params) && slices.EqualFunc(a.Instrs, b.Instrs, equalInstr) && equalTerminator(a.Term, b.Term)
}

func equalInstr(a, b api.Instr) bool {
	return a.Op == b.Op && a.Type == b.Type && a.Dst == b.Dst && a.Imm == b.Imm &&
		a.Sym == b.Sym && a.Elem == b.Elem && a.NoWrap == b.NoWrap && slices.Equal(a.Args, b.Args)
}

func equalTerminator(a, b api.Terminator) bool {
	return a.Kind == b.Kind && a.Sym == b.Sym && slices.Equal(a.Args, b.Args) &&
		slices.Equal(a.Cases, b.Cases) && slices.EqualFunc(a.Succs, b.Succs, equalEdge)
}

func equalEdge(a, b api.Edge) bool {
	return a.Block == b.Block && slices.Equal(a.Args, b.Args)
}

// Size returns the number of instructions of f, and one for the terminator of each block.
func Size(f api.Func) int {
	size := len(f.Blocks)
	for _, b := range f.Blocks {
		size += len(b.Instrs)
	}
	return size
}

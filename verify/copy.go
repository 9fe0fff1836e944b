package verify

import (
	"slices"
	"strings"

	"burnish/api"
)

// Clone returns a copy of m that shares no memory with it.
func Clone(m api.Module) api.Module {
	m.Globals = cloneEach(m.Globals, cloneGlobal)
	m.Funcs = cloneEach(m.Funcs, CloneFunc)
	return m
}

// CloneFunc returns a copy of f that shares no memory with it.
func CloneFunc(f api.Func) api.Func {
	f.Name = strings.Clone(f.Name)
	f.Params = slices.Clone(f.Params)
	f.Regs = slices.Clone(f.Regs)
	f.Blocks = cloneEach(f.Blocks, cloneBlock)
	return f
}

func cloneGlobal(g api.Global) api.Global {
	g.Name = strings.Clone(g.Name)
	g.Init = slices.Clone(g.Init)
	return g
}

func cloneBlock(b api.Block) api.Block {
	b.Params = slices.Clone(b.Params)
	b.Instrs = cloneEach(b.Instrs, func(in api.Instr) api.Instr {
		in.Args = slices.Clone(in.Args)
		return in
	})
	b.Term.Args = slices.Clone(b.Term.Args)
	b.Term.Cases = slices.Clone(b.Term.Cases)
	b.Term.Succs = cloneEach(b.Term.Succs, func(e api.Edge) api.Edge {
		e.Args = slices.Clone(e.Args)
		return e
	})
	return b
}

// cloneEach returns the list of the clones of the list's elements.
func cloneEach[T any](list []T, clone func(T) T) []T {
	clones := slices.Clone(list)
	for i, x := range clones {
		clones[i] = clone(x)
	}
	return clones
}

package parser

import (
	"burnish/api"
)

// link sets Sym, which is the index of the token that has the name, to the index of the global or function of that name.
func (r *reader) link(m api.Module) {
	globals := indices(m.Globals, func(g api.Global) string { return g.Name })
	funcs := indices(m.Funcs, func(f api.Func) string { return f.Name })
	for _, f := range m.Funcs {
		for i := range f.Blocks {
			b := &f.Blocks[i]
			for j := range b.Instrs {
				r.linkInstr(&b.Instrs[j], globals, funcs)
			}
			if b.Term.Kind == api.TailCall {
				b.Term.Sym = r.find(b.Term.Sym, funcs)
			}
		}
	}
}

func (r *reader) linkInstr(in *api.Instr, globals, funcs map[string]int) {
	switch in.Op {
	case api.OpGlobal:
		in.Sym = r.find(in.Sym, globals)
	case api.OpCall:
		in.Sym = r.find(in.Sym, funcs)
	}
}

// find returns the index that belongs to the name at a token.
func (r *reader) find(token int, names map[string]int) int {
	t := r.tokens[token]
	index, ok := names[t.Text]
	failIf(!ok, t.Offset, api.ErrNotFound)
	return index
}

// indices returns the index of the first element of each name.
func indices[T any](list []T, name func(T) string) map[string]int {
	first := map[string]int{}
	for i, x := range list {
		if _, ok := first[name(x)]; !ok {
			first[name(x)] = i
		}
	}
	return first
}

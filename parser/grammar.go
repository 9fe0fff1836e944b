package parser

import (
	"burnish/api"
)

// module reads all tokens. In what it returns Sym is the index of the token that has the name.
func (r *reader) module() api.Module {
	var m api.Module
	for r.has("global") {
		m.Globals = append(m.Globals, r.global(len(m.Globals)))
	}
	for !r.atEnd() {
		m.Funcs = append(m.Funcs, r.function(len(m.Funcs)))
	}
	return m
}

func (r *reader) global(index int) api.Global {
	r.reach(place{Part: api.PartGlobal, Index: index, Block: -1, Instr: -1})
	r.word("global")
	g := api.Global{Name: r.name(), Elem: r.typeName(), Len: int(r.integer()), ReadOnly: r.skip("readonly")}
	if r.skip("=") {
		g.Init = []int64{r.integer()}
		for r.hasInteger() {
			g.Init = append(g.Init, r.integer())
		}
	}
	return g
}

func (r *reader) function(index int) api.Func {
	at := place{Part: api.PartFunc, Index: index, Block: -1, Instr: -1}
	r.reach(at)
	r.word("func")
	f := api.Func{Name: r.name(), Params: list[int](r), Result: r.typeName()}
	r.word("regs")
	for r.hasType() {
		f.Regs = append(f.Regs, r.typeName())
	}
	for r.has("block") {
		at.Block = len(f.Blocks)
		f.Blocks = append(f.Blocks, r.block(at))
	}
	return f
}

func (r *reader) block(at place) api.Block {
	r.reach(at)
	r.word("block")
	r.need(r.hasInteger() && r.peek().Int == int64(at.Block))
	r.next++
	b := api.Block{Params: list[int](r)}
	for at.Instr = 0; !r.hasTerminator(); at.Instr++ {
		r.reach(at)
		b.Instrs = append(b.Instrs, r.instruction())
	}
	r.reach(at)
	b.Term = r.terminator()
	return b
}

func (r *reader) instruction() api.Instr {
	in := api.Instr{Dst: -1}
	if r.hasInteger() {
		in.Dst = int(r.integer())
		r.word("=")
	}
	in.Op = r.operation()
	in.NoWrap = r.skip("nowrap")
	if r.hasType() {
		in.Type = r.typeName()
	}
	in.Args = list[int](r)
	switch in.Op {
	case api.OpConst, api.OpLane:
		in.Imm = r.integer()
	case api.OpGlobal, api.OpCall:
		in.Sym = r.reference()
	case api.OpAlloca:
		in.Elem, in.Imm = r.typeName(), r.integer()
	}
	return in
}

// kindOf returns the kind of the terminators that begin with a word, or 0.
func kindOf(word string) int {
	switch word {
	case "jump":
		return api.Jump
	case "branch":
		return api.Branch
	case "switch":
		return api.Switch
	case "return":
		return api.Return
	case "trap":
		return api.Trap
	case "tailcall":
		return api.TailCall
	}
	return 0
}

func (r *reader) hasTerminator() bool {
	return kindOf(r.peek().Text) != 0
}

func (r *reader) terminator() api.Terminator {
	t := api.Terminator{Kind: kindOf(r.peek().Text)}
	r.next++
	switch t.Kind {
	case api.Jump:
		t.Succs = []api.Edge{r.edge()}
	case api.Branch:
		t.Args = []int{int(r.integer())}
		t.Succs = []api.Edge{r.edge(), r.edge()}
	case api.Switch:
		t.Args, t.Cases = []int{int(r.integer())}, list[int64](r)
		t.Succs = []api.Edge{r.edge()}
		for r.hasInteger() {
			t.Succs = append(t.Succs, r.edge())
		}
	case api.Return:
		t.Args = list[int](r)
	case api.Trap:
		t.Cases = []int64{r.integer()}
	case api.TailCall:
		t.Sym, t.Args = r.reference(), list[int](r)
	}
	return t
}

func (r *reader) edge() api.Edge {
	return api.Edge{Block: int(r.integer()), Args: list[int](r)}
}

func list[T int | int64](r *reader) []T {
	var all []T
	r.word("(")
	for r.hasInteger() {
		all = append(all, T(r.integer()))
	}
	r.word(")")
	return all
}

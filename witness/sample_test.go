package witness_test

import (
	"math/rand"
	"slices"
	"testing"

	"burnish/api"
	"burnish/expr"
	"burnish/parser"
	"burnish/ssaform"
	"burnish/verify"
)

// A module whose function f, with index fn, adds its parameter 1 to a sum while the sum
// is less than its parameter 0. Nothing leads to its block 4.
const sourceText = `global g i32 4 = 7
global h ptr 1
func other ( ) void
regs
block 0 ( )
return ( )
func f ( 0 1 ) i32
regs i32 i32 i32 i32 bool ptr i32 i64
block 0 ( )
2 = const i32 ( ) 0
5 = global ptr ( ) g
jump 1 ( 2 )
block 1 ( 3 )
4 = slt bool ( 3 0 )
branch 4 2 ( ) 3 ( )
block 2 ( )
6 = add i32 ( 3 1 )
store ( 5 6 )
jump 1 ( 6 )
block 3 ( )
return ( 3 )
block 4 ( )
7 = const i64 ( ) 5
jump 3 ( )
`

// The module with a function f that makes two additions in a row, and has its registers and blocks in another order.
const targetText = `global g i32 4 = 7
global h ptr 1
func other ( ) void
regs
block 0 ( )
trap 16
func f ( 4 2 ) i32
regs ptr bool i32 i64 i32 i32 i32 i32 i32 bool
block 0 ( )
0 = global ptr ( ) g
5 = const i32 ( ) 0
3 = const i64 ( ) 3
jump 2 ( 5 )
block 1 ( )
return ( 6 )
block 2 ( 6 )
1 = slt bool ( 6 4 )
branch 1 3 ( ) 1 ( )
block 3 ( )
7 = add i32 ( 6 2 )
store ( 0 7 )
9 = slt bool ( 7 4 )
branch 9 4 ( ) 5 ( )
block 4 ( )
8 = add i32 ( 7 2 )
store ( 0 8 )
jump 2 ( 8 )
block 5 ( )
return ( 7 )
`

// fn is the index of the function that the samples' witnesses are about.
const fn = 1

func module(t *testing.T, text string) api.Module {
	t.Helper()
	m, offset, err := parser.Module(text)
	if err != api.OK {
		t.Fatalf("%v at %q", err, text[offset:])
	}
	return m
}

func samples(t *testing.T) (src, dst api.Module) {
	t.Helper()
	return module(t, sourceText), module(t, targetText)
}

// holds returns the invariant that a register of the target refines an expression.
func holds(reg int, e []api.ExprNode) api.Invariant {
	return api.Invariant{Reg: reg, Expr: e}
}

// ofSource returns the invariant that an expression refines a register of the source.
func ofSource(reg int, e []api.ExprNode) api.Invariant {
	return api.Invariant{OfSource: true, Reg: reg, Expr: e}
}

// exactly returns the invariant that an expression and a register of the source are equal.
func exactly(reg int, e []api.ExprNode) api.Invariant {
	return api.Invariant{OfSource: true, Exact: true, Reg: reg, Expr: e}
}

func path(start, end int, target, source []int) api.Path {
	return api.Path{Start: start, Target: target, Source: source, End: end}
}

// global returns the expression for the pointer to a global.
func global(n int64) []api.ExprNode {
	return []api.ExprNode{{Op: api.OpGlobal, Type: api.Ptr, N: n}}
}

// sample returns a well-formed witness for the samples.
func sample() api.Witness {
	load := expr.Apply(api.OpLoad, api.I32, global(0))
	return api.Witness{
		Expand: []api.Pos{{Block: 2, Index: 1}, {Block: -7, Index: 99}},
		CutPoints: []api.CutPoint{
			{},
			{Target: 2, Source: 1, Invariants: []api.Invariant{
				holds(4, expr.Reg(0)), holds(2, expr.Reg(1)), holds(6, expr.Reg(3)), holds(0, global(0)),
				ofSource(6, load), exactly(5, global(0)), ofSource(0, expr.Reg(0)), holds(5, expr.Const(api.I32, 0)),
			}},
			{Target: 5, Source: 1},
		},
		Paths: []api.Path{
			path(0, 1, []int{0}, []int{0}), path(1, 2, []int{0, 1}, []int{0, 0}), path(1, 1, []int{0, 0, 0}, []int{0, 0, 0, 0}),
			path(1, -1, []int{1, -1}, []int{1, -1}), path(2, -1, []int{-1}, []int{1, -1}),
		},
	}
}

// isAvailable reports whether a register of f is available at a block, by the definition.
func isAvailable(f api.Func, reg, block int) bool {
	var defs []api.Pos
	for b := range f.Blocks {
		written := slices.Clone(f.Blocks[b].Params)
		if b == 0 {
			written = append(written, f.Params...)
		}
		if slices.Contains(written, reg) {
			defs = append(defs, api.Pos{Block: b, Index: -1})
		}
		for i, in := range f.Blocks[b].Instrs {
			if in.Dst == reg {
				defs = append(defs, api.Pos{Block: b, Index: i})
			}
		}
	}
	if reg < 0 || len(defs) != 1 || !reached(f, -1)[block] {
		return false
	}
	if defs[0].Block == block {
		return defs[0].Index == -1
	}
	return !reached(f, defs[0].Block)[block]
}

// reached returns the blocks to which paths lead that avoid a block.
func reached(f api.Func, avoided int) map[int]bool {
	found := map[int]bool{}
	if len(f.Blocks) == 0 || avoided == 0 {
		return found
	}
	found[0] = true
	for waiting := []int{0}; len(waiting) > 0; {
		block := waiting[0]
		waiting = waiting[1:]
		for _, e := range f.Blocks[block].Term.Succs {
			if e.Block != avoided && !found[e.Block] {
				found[e.Block] = true
				waiting = append(waiting, e.Block)
			}
		}
	}
	return found
}

// The registers of random functions: register r has the type of r modulo 3.
func typeOf(reg int) api.Type {
	return []api.Type{api.I32, api.Bool, api.I64}[reg%3]
}

const registers = 60

// randomShape returns a function each of whose positions writes registers of its own and reads nothing yet.
func randomShape(r *rand.Rand) api.Func {
	f := api.Func{Name: "f", Result: api.I32, Regs: make([]api.Type, registers), Blocks: make([]api.Block, 1+r.Intn(7))}
	for reg := range f.Regs {
		f.Regs[reg] = typeOf(reg)
	}
	unused := r.Perm(registers)
	fresh := func(n int) []int {
		taken := slices.Clone(unused[:n])
		unused = unused[n:]
		return taken
	}
	f.Params = fresh(r.Intn(3))
	for i := range f.Blocks {
		b := &f.Blocks[i]
		if i > 0 {
			b.Params = fresh(r.Intn(3))
		}
		for n := r.Intn(4); n > 0 || i == 0 && !hasAllTypes(b.Instrs); n-- {
			reg := fresh(1)[0]
			b.Instrs = append(b.Instrs, api.Instr{Op: api.OpCopy, Type: typeOf(reg), Dst: reg})
		}
		b.Term = randomTerminator(r, len(f.Blocks))
	}
	return f
}

func hasAllTypes(instrs []api.Instr) bool {
	found := map[api.Type]bool{}
	for _, in := range instrs {
		found[in.Type] = true
	}
	return len(found) == 3
}

// randomTerminator returns a terminator of a function with n blocks that reads nothing yet.
func randomTerminator(r *rand.Rand, n int) api.Terminator {
	kind := []int{api.Jump, api.Branch, api.Switch, api.Branch, api.Return, api.Trap}[r.Intn(6)]
	succs := map[int]int{api.Jump: 1, api.Branch: 2, api.Switch: 3}[kind]
	term := api.Terminator{Kind: kind}
	switch {
	case n == 1 || kind == api.Return:
		return api.Terminator{Kind: api.Return}
	case kind == api.Switch:
		term.Cases = []int64{0, 5}
	case kind == api.Trap:
		term.Cases = []int64{77}
	}
	for range succs {
		term.Succs = append(term.Succs, api.Edge{Block: 1 + r.Intn(n-1)})
	}
	return term
}

// randomSSA returns a module with a valid function in SSA form.
func randomSSA(r *rand.Rand) api.Module {
	f := randomShape(r)
	defs := ssaform.DefPos(f)
	// ready returns a register of a type whose definition precedes a position, or -1.
	ready := func(t api.Type, at api.Pos) int {
		var all []int
		for reg, def := range defs {
			if f.Regs[reg] == t && (ssaform.Precedes(f, def, at) || !reached(f, -1)[at.Block]) {
				all = append(all, reg)
			}
		}
		if len(all) == 0 {
			return -1
		}
		return all[r.Intn(len(all))]
	}
	for i, b := range f.Blocks {
		for j := range b.Instrs {
			in := &b.Instrs[j]
			if reg := ready(in.Type, api.Pos{Block: i, Index: j}); reg >= 0 && r.Intn(5) > 0 {
				in.Args = []int{reg}
			} else {
				in.Op = api.OpPoison
			}
		}
		end := api.Pos{Block: i, Index: len(b.Instrs)}
		term := &f.Blocks[i].Term
		if t := map[int]api.Type{api.Branch: api.Bool, api.Switch: api.I64, api.Return: api.I32}[term.Kind]; t != api.Void {
			term.Args = []int{ready(t, end)}
		}
		for j, e := range term.Succs {
			for _, param := range f.Blocks[e.Block].Params {
				term.Succs[j].Args = append(term.Succs[j].Args, ready(f.Regs[param], end))
			}
		}
	}
	return api.Module{Globals: []api.Global{{Name: "g", Elem: api.I32, Len: 1}}, Funcs: []api.Func{f}}
}

// merged returns a module like m whose function is valid, but has some of its registers in the place of others.
func merged(r *rand.Rand, m api.Module) api.Module {
	for {
		other := verify.Clone(m)
		perm := make([]int, registers)
		for reg := range perm {
			perm[reg] = reg
			if r.Intn(4) == 0 {
				perm[reg] = (reg + 3*r.Intn(registers)) % registers
			}
		}
		rename(&other.Funcs[0], perm)
		if verify.Module(other) == (api.Diagnostic{}) {
			return other
		}
	}
}

// rename puts perm[r] in the place of each register r.
func rename(f *api.Func, perm []int) {
	lists := [][]int{f.Params}
	for _, b := range f.Blocks {
		lists = append(lists, b.Params, b.Term.Args)
		for i := range b.Instrs {
			b.Instrs[i].Dst = perm[b.Instrs[i].Dst]
			lists = append(lists, b.Instrs[i].Args)
		}
		for _, e := range b.Term.Succs {
			lists = append(lists, e.Args)
		}
	}
	for _, list := range lists {
		for i := range list {
			list[i] = perm[list[i]]
		}
	}
}

// someModules returns modules with one function each, every second one in SSA form.
func someModules(t *testing.T, n int) []api.Module {
	t.Helper()
	r := rand.New(rand.NewSource(24))
	var all []api.Module
	for range n {
		m := randomSSA(r)
		if d := verify.Module(m); d != (api.Diagnostic{}) || !ssaform.IsSSA(m.Funcs[0]) {
			t.Fatalf("%+v\n%+v", d, m)
		}
		all = append(all, m, merged(r, m))
	}
	return all
}

// oddFuncs returns functions that the verifier rejects for all sorts of numbers.
func oddFuncs() []api.Func {
	block := func(params []int, succs ...int) api.Block {
		b := api.Block{Params: params, Instrs: []api.Instr{{Op: -3, Dst: 7, Args: []int{-1, 99}}, {Dst: -8}, {Dst: 1, Args: []int{0, 1}}}}
		for _, succ := range succs {
			b.Term.Succs = append(b.Term.Succs, api.Edge{Block: succ, Args: []int{-2, 1, 50}})
		}
		return b
	}
	regs := []api.Type{api.I32, 99, -4, api.Void}
	return []api.Func{
		{},
		{Regs: regs},
		{Regs: regs, Params: []int{1, 1, -1, 44}, Blocks: []api.Block{block([]int{3, 3, -9, 70}, 0, 0, 1), block([]int{0, 4, -1}, 1, 0)}},
		{Params: []int{0}, Blocks: []api.Block{block([]int{0}, 1), block([]int{1}, 1)}},
		{Regs: regs, Blocks: []api.Block{block(nil, 1, -1), block([]int{2}, 77)}},
		{Regs: regs, Blocks: make([]api.Block, 3)},
	}
}

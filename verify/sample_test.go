package verify_test

import (
	"math"
	"testing"

	"burnish/api"
	"burnish/verify"
)

// The functions of sample, in order.
const (
	done  = iota // returns nothing
	same         // returns its operand
	work         // has terminators of all kinds
	mixed        // has two parameters, and a tail call
	last         // is not called
	functions
)

// The registers of function work. There are two I32 more: 6 and 7.
const (
	x = iota // a parameter
	cond
	n32
	n64
	ptr
	vec
)

func edge(block int, args ...int) api.Edge {
	return api.Edge{Block: block, Args: args}
}

func jump(e api.Edge) api.Terminator {
	return api.Terminator{Kind: api.Jump, Succs: []api.Edge{e}}
}

func result(args ...int) api.Terminator {
	return api.Terminator{Kind: api.Return, Args: args}
}

// ending returns a block that has a terminator only.
func ending(t api.Terminator) api.Block {
	return api.Block{Term: t}
}

// sample returns a valid module with all that a module can have.
func sample() api.Module {
	return api.Module{
		Globals: []api.Global{
			{Name: "data", Elem: api.I32, Len: 4, Init: []int64{1, math.MinInt32, math.MaxInt32}},
			{Name: "link", Elem: api.Ptr, Len: 2},
			{Name: "text", Elem: api.I8, Len: api.MaxCells, Init: []int64{-128, 127}, ReadOnly: true},
			{Name: "wide", Elem: api.I64, Len: 1, Init: []int64{math.MinInt64}},
		},
		Funcs: []api.Func{
			{Name: "done", Blocks: []api.Block{ending(result())}},
			{Name: "same", Params: []int{0}, Result: api.I32, Regs: []api.Type{api.I32}, Blocks: []api.Block{ending(result(0))}},
			{Name: "work", Params: []int{x, cond}, Result: api.I32, Regs: []api.Type{api.I32, api.Bool, api.I32, api.I64, api.Ptr, api.V2, api.I32, api.I32}, Blocks: workBlocks()},
			{Name: "data", Params: []int{3, 1}, Result: api.I32, Regs: []api.Type{api.Void + 1, api.Ptr, api.V4, api.I32}, Blocks: []api.Block{
				{Term: api.Terminator{Kind: api.TailCall, Sym: mixed, Args: []int{3, 1}}},
			}},
			{Name: "last", Regs: []api.Type{api.I64}, Params: []int{0}, Blocks: []api.Block{
				{Instrs: []api.Instr{{Op: api.OpCall, Dst: -1, Sym: done}}, Term: api.Terminator{Kind: api.TailCall, Sym: done}},
			}},
		},
	}
}

// The blocks of function work.
const (
	entry = iota
	loop
	exit
	stop
	call
	wide // is not reachable
)

func workBlocks() []api.Block {
	return []api.Block{
		entry: {
			Instrs: []api.Instr{
				{Op: api.OpConst, Type: api.I32, Dst: n32, Imm: 7},
				{Op: api.OpGlobal, Type: api.Ptr, Dst: ptr, Sym: 3},
				{Op: api.OpLoad, Type: api.I64, Dst: n64, Args: []int{ptr}},
				{Op: api.OpCall, Type: api.I32, Dst: n32, Sym: same, Args: []int{x}},
				{Op: api.OpAlloca, Type: api.Ptr, Dst: ptr, Elem: api.I32, Imm: 2},
			},
			Term: api.Terminator{Kind: api.Branch, Args: []int{cond}, Succs: []api.Edge{edge(loop, x, n64), edge(exit, n32)}},
		},
		loop: {
			Params: []int{6, n64},
			Instrs: []api.Instr{{Op: api.OpAdd, Type: api.I32, Dst: 7, Args: []int{6, x}, NoWrap: true}},
			Term:   api.Terminator{Kind: api.Switch, Args: []int{7}, Cases: []int64{0, math.MaxInt32, math.MinInt32}, Succs: []api.Edge{edge(loop, 7, n64), edge(exit, 7), edge(stop), edge(call)}},
		},
		exit: {Params: []int{n32}, Term: result(n32)},
		stop: {Instrs: []api.Instr{{Op: api.OpOutput, Dst: -1, Args: []int{vec}}}, Term: api.Terminator{Kind: api.Trap, Cases: []int64{16}}},
		call: {Term: api.Terminator{Kind: api.TailCall, Sym: mixed, Args: []int{x, ptr}}},
		wide: {Term: api.Terminator{Kind: api.Switch, Args: []int{n64}, Cases: []int64{math.MinInt64, 1 << 40}, Succs: []api.Edge{edge(wide), edge(wide), edge(exit, x)}}},
	}
}

// The diagnostics of a global, of a function, and of a place in a block of function work.

func inGlobal(i int, code api.Errno) api.Diagnostic {
	return api.Diagnostic{Code: code, Part: api.PartGlobal, Index: i, Block: -1, Instr: -1}
}

func inFunc(i int, code api.Errno) api.Diagnostic {
	return api.Diagnostic{Code: code, Part: api.PartFunc, Index: i, Block: -1, Instr: -1}
}

func inBlock(block, instr int, code api.Errno) api.Diagnostic {
	return api.Diagnostic{Code: code, Part: api.PartFunc, Index: work, Block: block, Instr: instr}
}

// expectFirst checks what Module reports, and that Func agrees with it (P14.1, P14.2, P14.5).
func expectFirst(t *testing.T, why string, m api.Module, want api.Diagnostic) {
	t.Helper()
	if got := verify.Module(m); got != want {
		t.Errorf("%s: %+v, want %+v", why, got, want)
	}
	inBody := want.Part == api.PartFunc && want.Index >= 0 && hasSignatures(m)
	for fn := range m.Funcs {
		got := verify.Func(m, fn)
		if (!inBody || fn <= want.Index) && got != wantOf(fn, inBody, want) {
			t.Errorf("%s: Func(%d): %+v, Module reports %+v", why, fn, got, want)
		}
	}
}

// wantOf returns what Func reports of a function up to the first that has an error.
func wantOf(fn int, inBody bool, first api.Diagnostic) api.Diagnostic {
	if inBody && fn < first.Index {
		return api.Diagnostic{}
	}
	return first
}

// hasSignatures reports whether the globals and the signatures of m have no error: then it has none with trivial bodies.
func hasSignatures(m api.Module) bool {
	m.Funcs = append([]api.Func(nil), m.Funcs...)
	for i := range m.Funcs {
		m.Funcs[i].Blocks = []api.Block{{Term: api.Terminator{Kind: api.Trap, Cases: []int64{16}}}}
	}
	return verify.Module(m) == api.Diagnostic{}
}

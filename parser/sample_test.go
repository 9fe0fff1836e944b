package parser_test

import (
	"math"

	"burnish/api"
)

// sampleText has all that the format has. Some of its names are words of the format.
const sampleText = `global data i32 4 = 1 -2147483648 0
global global ptr 256 readonly
global _9 i64 1 readonly = -9223372036854775808
global readonly i8 1
func regs ( ) void
regs
block 0 ( )
return ( )
func all ( 4 2 ) v4
regs bool i8 i32 i64 ptr v2 v4
block 0 ( )
3 = const i64 ( ) -9223372036854775808
6 = poison v4 ( )
1 = freeze i8 ( 1 )
2 = add nowrap i32 ( 2 2 )
0 = ult bool ( 1 1 )
4 = select ptr ( 0 4 4 )
4 = global ptr ( ) global
4 = alloca ptr ( ) i32 4
5 = load v2 ( 4 )
store ( 4 6 )
call ( ) regs
2 = call i32 ( 2 ) data
call i32 ( 2 ) data
6 = pack v4 ( 2 2 2 2 )
2 = lane i32 ( 6 ) 3
branch 0 1 ( 3 6 ) 2 ( )
block 1 ( 3 6 )
output ( 5 )
switch 3 ( 1 -9223372036854775808 ) 1 ( 3 6 ) 2 ( ) 3 ( 5 )
block 2 ( )
jump 3 ( 5 )
block 3 ( 5 )
return ( 6 )
block 4 ( )
trap 255
block 5 ( )
tailcall all ( 4 2 )
func data ( 0 ) i32
regs i32
block 0 ( )
switch 0 ( ) 1 ( 0 )
block 1 ( 0 )
return ( 0 )
`

func op(dst, op int, ty api.Type, args ...int) api.Instr {
	return api.Instr{Op: op, Type: ty, Dst: dst, Args: args}
}

func edge(block int, args ...int) api.Edge {
	return api.Edge{Block: block, Args: args}
}

// sample returns the module whose text is sampleText.
func sample() api.Module {
	return api.Module{
		Globals: []api.Global{
			{Name: "data", Elem: api.I32, Len: 4, Init: []int64{1, math.MinInt32, 0}},
			{Name: "global", Elem: api.Ptr, Len: 256, ReadOnly: true},
			{Name: "_9", Elem: api.I64, Len: 1, Init: []int64{math.MinInt64}, ReadOnly: true},
			{Name: "readonly", Elem: api.I8, Len: 1},
		},
		Funcs: []api.Func{
			{Name: "regs", Blocks: []api.Block{{Term: api.Terminator{Kind: api.Return}}}},
			{Name: "all", Params: []int{4, 2}, Result: api.V4, Regs: []api.Type{api.Bool, api.I8, api.I32, api.I64, api.Ptr, api.V2, api.V4}, Blocks: sampleBlocks()},
			{Name: "data", Params: []int{0}, Result: api.I32, Regs: []api.Type{api.I32}, Blocks: []api.Block{
				{Term: api.Terminator{Kind: api.Switch, Args: []int{0}, Succs: []api.Edge{edge(1, 0)}}},
				{Params: []int{0}, Term: api.Terminator{Kind: api.Return, Args: []int{0}}},
			}},
		},
	}
}

func sampleBlocks() []api.Block {
	first := []api.Instr{
		{Op: api.OpConst, Type: api.I64, Dst: 3, Imm: math.MinInt64},
		op(6, api.OpPoison, api.V4),
		op(1, api.OpFreeze, api.I8, 1),
		{Op: api.OpAdd, Type: api.I32, Dst: 2, Args: []int{2, 2}, NoWrap: true},
		op(0, api.OpUlt, api.Bool, 1, 1),
		op(4, api.OpSelect, api.Ptr, 0, 4, 4),
		{Op: api.OpGlobal, Type: api.Ptr, Dst: 4, Sym: 1},
		{Op: api.OpAlloca, Type: api.Ptr, Dst: 4, Elem: api.I32, Imm: 4},
		op(5, api.OpLoad, api.V2, 4),
		op(-1, api.OpStore, api.Void, 4, 6),
		op(-1, api.OpCall, api.Void),
		{Op: api.OpCall, Type: api.I32, Dst: 2, Args: []int{2}, Sym: 2},
		{Op: api.OpCall, Type: api.I32, Dst: -1, Args: []int{2}, Sym: 2},
		op(6, api.OpPack, api.V4, 2, 2, 2, 2),
		{Op: api.OpLane, Type: api.I32, Dst: 2, Args: []int{6}, Imm: 3},
	}
	return []api.Block{
		{Instrs: first, Term: api.Terminator{Kind: api.Branch, Args: []int{0}, Succs: []api.Edge{edge(1, 3, 6), edge(2)}}},
		{Params: []int{3, 6}, Instrs: []api.Instr{op(-1, api.OpOutput, api.Void, 5)},
			Term: api.Terminator{Kind: api.Switch, Args: []int{3}, Cases: []int64{1, math.MinInt64}, Succs: []api.Edge{edge(1, 3, 6), edge(2), edge(3, 5)}}},
		{Term: api.Terminator{Kind: api.Jump, Succs: []api.Edge{edge(3, 5)}}},
		{Params: []int{5}, Term: api.Terminator{Kind: api.Return, Args: []int{6}}},
		{Term: api.Terminator{Kind: api.Trap, Cases: []int64{255}}},
		{Term: api.Terminator{Kind: api.TailCall, Sym: 1, Args: []int{4, 2}}},
	}
}

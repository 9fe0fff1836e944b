package printer_test

import (
	"math"

	"burnish/api"
)

// The registers of function all of sample: one of each type.
const (
	flag = iota
	n8
	n32
	n64
	ptr
	v2
	v4
)

func op(dst, op int, ty api.Type, args ...int) api.Instr {
	return api.Instr{Op: op, Type: ty, Dst: dst, Args: args}
}

func edge(block int, args ...int) api.Edge {
	return api.Edge{Block: block, Args: args}
}

// sample returns a valid module with all that a module can have. Some of its names are words of the format.
func sample() api.Module {
	return api.Module{
		Globals: []api.Global{
			{Name: "data", Elem: api.I32, Len: 4, Init: []int64{1, math.MinInt32, 0}},
			{Name: "global", Elem: api.Ptr, Len: 256, ReadOnly: true},
			{Name: "_9", Elem: api.I64, Len: 1, Init: []int64{math.MinInt64}, ReadOnly: true},
			{Name: "readonly", Elem: api.I8, Len: 1},
		},
		Funcs: []api.Func{
			{Name: "regs", Blocks: []api.Block{{Term: api.Terminator{Kind: api.Return}}}},
			{Name: "all", Params: []int{ptr, n32}, Result: api.V4, Regs: []api.Type{api.Bool, api.I8, api.I32, api.I64, api.Ptr, api.V2, api.V4}, Blocks: blocks()},
			{Name: "data", Params: []int{0}, Result: api.I32, Regs: []api.Type{api.I32}, Blocks: []api.Block{
				{Term: api.Terminator{Kind: api.Switch, Args: []int{0}, Succs: []api.Edge{edge(1, 0)}}},
				{Params: []int{0}, Term: api.Terminator{Kind: api.Return, Args: []int{0}}},
			}},
		},
	}
}

// instructions returns an instruction of each operation, some in more than one shape.
func instructions() []api.Instr {
	list := []api.Instr{
		{Op: api.OpConst, Type: api.I64, Dst: n64, Imm: math.MinInt64},
		{Op: api.OpConst, Type: api.Bool, Dst: flag},
		op(v4, api.OpPoison, api.V4),
		op(n8, api.OpFreeze, api.I8, n8),
		op(ptr, api.OpCopy, api.Ptr, ptr),
		{Op: api.OpAdd, Type: api.I32, Dst: n32, Args: []int{n32, n32}, NoWrap: true},
		{Op: api.OpSub, Type: api.V2, Dst: v2, Args: []int{v2, v2}, NoWrap: true},
		{Op: api.OpMul, Type: api.I8, Dst: n8, Args: []int{n8, n8}, NoWrap: true},
	}
	for o := api.OpAdd; o <= api.OpSrem; o++ {
		list = append(list, op(n64, o, api.I64, n64, n64))
	}
	for o := api.OpEq; o <= api.OpUlt; o++ {
		list = append(list, op(flag, o, api.Bool, n8, n8))
	}
	return append(list,
		op(ptr, api.OpSelect, api.Ptr, flag, ptr, ptr),
		op(n64, api.OpSext, api.I64, n32),
		op(n32, api.OpZext, api.I32, flag),
		op(flag, api.OpTrunc, api.Bool, n64),
		api.Instr{Op: api.OpGlobal, Type: api.Ptr, Dst: ptr},
		api.Instr{Op: api.OpGlobal, Type: api.Ptr, Dst: ptr, Sym: 1},
		api.Instr{Op: api.OpAlloca, Type: api.Ptr, Dst: ptr, Elem: api.I32, Imm: 4},
		op(ptr, api.OpOffset, api.Ptr, ptr, n64),
		op(v2, api.OpLoad, api.V2, ptr),
		op(-1, api.OpStore, api.Void, ptr, v4),
		api.Instr{Op: api.OpCall, Dst: -1},
		api.Instr{Op: api.OpCall, Type: api.I32, Dst: n32, Args: []int{n32}, Sym: 2},
		api.Instr{Op: api.OpCall, Type: api.I32, Dst: -1, Args: []int{n32}, Sym: 2},
		op(-1, api.OpOutput, api.Void, v2),
		op(v4, api.OpPack, api.V4, n32, n32, n32, n32),
		op(n32, api.OpLane, api.I32, v4),
		api.Instr{Op: api.OpLane, Type: api.I32, Dst: n32, Args: []int{v4}, Imm: 3},
	)
}

func blocks() []api.Block {
	return []api.Block{
		{Instrs: instructions(), Term: api.Terminator{Kind: api.Branch, Args: []int{flag}, Succs: []api.Edge{edge(1, n64, v4), edge(2)}}},
		{Params: []int{n64, v4}, Term: api.Terminator{Kind: api.Switch, Args: []int{n64}, Cases: []int64{1, math.MinInt64}, Succs: []api.Edge{edge(1, n64, v4), edge(2), edge(3, v2)}}},
		{Term: api.Terminator{Kind: api.Jump, Succs: []api.Edge{edge(3, v2)}}},
		{Params: []int{v2}, Term: api.Terminator{Kind: api.Return, Args: []int{v4}}},
		{Term: api.Terminator{Kind: api.Trap, Cases: []int64{255}}},
		{Term: api.Terminator{Kind: api.TailCall, Sym: 1, Args: []int{ptr, n32}}},
	}
}

// The texts of sample's globals and of its functions.

const globalsText = `global data i32 4 = 1 -2147483648 0
global global ptr 256 readonly
global _9 i64 1 readonly = -9223372036854775808
global readonly i8 1
`

var funcTexts = []string{`func regs ( ) void
regs
block 0 ( )
return ( )
`, `func all ( 4 2 ) v4
regs bool i8 i32 i64 ptr v2 v4
block 0 ( )
3 = const i64 ( ) -9223372036854775808
0 = const bool ( ) 0
6 = poison v4 ( )
1 = freeze i8 ( 1 )
4 = copy ptr ( 4 )
2 = add nowrap i32 ( 2 2 )
5 = sub nowrap v2 ( 5 5 )
1 = mul nowrap i8 ( 1 1 )
3 = add i64 ( 3 3 )
3 = sub i64 ( 3 3 )
3 = mul i64 ( 3 3 )
3 = and i64 ( 3 3 )
3 = or i64 ( 3 3 )
3 = xor i64 ( 3 3 )
3 = shl i64 ( 3 3 )
3 = lshr i64 ( 3 3 )
3 = ashr i64 ( 3 3 )
3 = sdiv i64 ( 3 3 )
3 = srem i64 ( 3 3 )
0 = eq bool ( 1 1 )
0 = ne bool ( 1 1 )
0 = slt bool ( 1 1 )
0 = sle bool ( 1 1 )
0 = ult bool ( 1 1 )
4 = select ptr ( 0 4 4 )
3 = sext i64 ( 2 )
2 = zext i32 ( 0 )
0 = trunc bool ( 3 )
4 = global ptr ( ) data
4 = global ptr ( ) global
4 = alloca ptr ( ) i32 4
4 = offset ptr ( 4 3 )
5 = load v2 ( 4 )
store ( 4 6 )
call ( ) regs
2 = call i32 ( 2 ) data
call i32 ( 2 ) data
output ( 5 )
6 = pack v4 ( 2 2 2 2 )
2 = lane i32 ( 6 ) 0
2 = lane i32 ( 6 ) 3
branch 0 1 ( 3 6 ) 2 ( )
block 1 ( 3 6 )
switch 3 ( 1 -9223372036854775808 ) 1 ( 3 6 ) 2 ( ) 3 ( 5 )
block 2 ( )
jump 3 ( 5 )
block 3 ( 5 )
return ( 6 )
block 4 ( )
trap 255
block 5 ( )
tailcall all ( 4 2 )
`, `func data ( 0 ) i32
regs i32
block 0 ( )
switch 0 ( ) 1 ( 0 )
block 1 ( 0 )
return ( 0 )
`}

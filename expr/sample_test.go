package expr_test

import (
	"math"
	"math/rand"
	"slices"

	"burnish/api"
	"burnish/expr"
)

// everyType returns a function whose register r has type r+1, so that it has one of each type.
func everyType() api.Func {
	return api.Func{Regs: []api.Type{api.Bool, api.I8, api.I32, api.I64, api.Ptr, api.V2, api.V4}}
}

// of returns the expression for a register of everyType.
func of(t api.Type) []api.ExprNode {
	return expr.Reg(int(t) - 1)
}

// twoGlobals returns a module without functions.
func twoGlobals() api.Module {
	return api.Module{Globals: []api.Global{{Name: "a", Elem: api.I32, Len: 4}, {Name: "b", Elem: api.Ptr, Len: 1}}}
}

// joined returns the nodes of some expressions one behind the other.
func joined(parts ...[]api.ExprNode) []api.ExprNode {
	var e []api.ExprNode
	for _, part := range parts {
		e = append(e, part...)
	}
	return e
}

func isOneOf(t api.Type, types ...api.Type) bool {
	return slices.Contains(types, t)
}

// operandsOf returns the number of operands of an allowed opcode, or -1 for one that is not allowed.
func operandsOf(op int, t api.Type) int {
	switch op {
	case api.OpConst, api.OpPoison, api.OpCopy, api.OpGlobal:
		return 0
	case api.OpAdd, api.OpSub, api.OpMul, api.OpAnd, api.OpOr, api.OpXor, api.OpShl, api.OpLshr, api.OpAshr,
		api.OpEq, api.OpNe, api.OpSlt, api.OpSle, api.OpUlt, api.OpOffset:
		return 2
	case api.OpSelect:
		return 3
	case api.OpSext, api.OpZext, api.OpTrunc, api.OpLoad, api.OpLane:
		return 1
	case api.OpPack:
		if t == api.V2 {
			return 2
		}
		return 4
	}
	return -1
}

// rank orders the integer types by their widths; other types have rank 0.
func rank(t api.Type) int {
	return slices.Index([]api.Type{api.Bool, api.I8, api.I32, api.I64}, t) + 1
}

// typed reports whether the table of DOC.md allows a type of the result of op, other than OpCopy, with operands of some types.
func typed(op int, t api.Type, operands []api.Type) bool {
	at := append(slices.Clone(operands), -1, -1, -1)
	isInt, isWord, isVector := rank(t) > 0, rank(t) > 1, isOneOf(t, api.V2, api.V4)
	isType := t >= api.Bool && t <= api.V4
	switch op {
	case api.OpConst:
		return isInt
	case api.OpPoison:
		return isType
	case api.OpAdd, api.OpSub, api.OpMul:
		return (isWord || isVector) && at[0] == t && at[1] == t
	case api.OpAnd, api.OpOr, api.OpXor:
		return (isInt || isVector) && at[0] == t && at[1] == t
	case api.OpShl, api.OpLshr, api.OpAshr:
		return isWord && at[0] == t && at[1] == t
	case api.OpEq, api.OpNe:
		return t == api.Bool && at[0] == at[1] && (rank(at[0]) > 0 || at[0] == api.Ptr)
	case api.OpSlt, api.OpSle, api.OpUlt:
		return t == api.Bool && at[0] == at[1] && rank(at[0]) > 1
	case api.OpSelect:
		return isType && at[0] == api.Bool && at[1] == t && at[2] == t
	case api.OpSext:
		return isOneOf(t, api.I32, api.I64) && isOneOf(at[0], api.I8, api.I32) && rank(at[0]) < rank(t)
	case api.OpZext:
		return isWord && rank(at[0]) > 0 && rank(at[0]) < rank(t)
	case api.OpTrunc:
		return isInt && rank(at[0]) > rank(t)
	case api.OpGlobal:
		return t == api.Ptr
	case api.OpOffset:
		return t == api.Ptr && at[0] == api.Ptr && at[1] == api.I64
	case api.OpLoad:
		return (isWord || isVector || t == api.Ptr) && at[0] == api.Ptr
	case api.OpPack:
		return isVector && !slices.ContainsFunc(operands, func(o api.Type) bool { return o != api.I32 })
	}
	return t == api.I32 && isOneOf(at[0], api.V2, api.V4) // OpLane
}

// inRange reports whether N of a node is an integer of its type, or a lane index of its operand.
func inRange(node api.ExprNode, operands []api.Type) bool {
	switch {
	case node.Op == api.OpConst && node.Type == api.Bool:
		return node.N == 0 || node.N == 1
	case node.Op == api.OpConst && node.Type == api.I8:
		return node.N >= math.MinInt8 && node.N <= math.MaxInt8
	case node.Op == api.OpConst && node.Type == api.I32:
		return node.N >= math.MinInt32 && node.N <= math.MaxInt32
	case node.Op == api.OpLane && operands[0] == api.V2:
		return node.N == 0 || node.N == 1
	case node.Op == api.OpLane:
		return node.N >= 0 && node.N <= 3
	}
	return true
}

// nodeError returns what is wrong with a node that finds some types on the stack.
func nodeError(node api.ExprNode, stack []api.Type, f api.Func, m api.Module) api.Errno {
	count := operandsOf(node.Op, node.Type)
	mayHaveN := node.Op == api.OpCopy || node.Op == api.OpConst || node.Op == api.OpGlobal || node.Op == api.OpLane
	switch {
	case count < 0:
		return api.ErrType
	case node.Op == api.OpCopy && (node.N < 0 || node.N >= int64(len(f.Regs))):
		return api.ErrNotFound
	case node.Op == api.OpGlobal && (node.N < 0 || node.N >= int64(len(m.Globals))):
		return api.ErrNotFound
	case node.Op == api.OpCopy && node.Type != api.Void || !mayHaveN && node.N != 0:
		return api.ErrFormat
	case count > len(stack):
		return api.ErrShort
	case node.Op == api.OpCopy:
		return api.OK
	case !typed(node.Op, node.Type, stack[len(stack)-count:]):
		return api.ErrType
	case !inRange(node, stack[len(stack)-count:]):
		return api.ErrRange
	}
	return api.OK
}

// check is Check as the document defines it.
func check(e []api.ExprNode, f api.Func, m api.Module) (api.Type, api.Errno) {
	var stack []api.Type
	for _, node := range e {
		if err := nodeError(node, stack, f, m); err != api.OK {
			return api.Void, err
		}
		stack = stack[:len(stack)-operandsOf(node.Op, node.Type)]
		if node.Op == api.OpCopy {
			stack = append(stack, f.Regs[node.N])
		} else {
			stack = append(stack, node.Type)
		}
	}
	if len(stack) == 0 {
		return api.Void, api.ErrShort
	}
	if len(stack) > 1 {
		return api.Void, api.ErrLong
	}
	return stack[0], api.OK
}

// someNumbers are the numbers that nodes are tried with.
func someNumbers() []int64 {
	return []int64{0, 1, 2, 3, 4, 6, 7, -1, 127, 128, -128, -129, math.MaxInt32, math.MaxInt32 + 1, math.MinInt32, math.MinInt32 - 1, 1 << 32, math.MaxInt64, math.MinInt64}
}

// randomExpr returns an expression of everyType that is valid, with a value of type t.
func randomExpr(r *rand.Rand, t api.Type, depth int) []api.ExprNode {
	if depth == 0 || r.Intn(6) == 0 {
		return of(t)
	}
	for {
		op := 1 + r.Intn(api.OpLane)
		count := operandsOf(op, t)
		if count < 0 || op == api.OpCopy {
			continue
		}
		operands := make([]api.Type, count)
		for i := range operands {
			operands[i] = api.Type(1 + r.Intn(int(api.V4)))
		}
		node := api.ExprNode{Op: op, Type: t, N: int64(r.Intn(2))}
		if op != api.OpConst && op != api.OpGlobal && op != api.OpLane {
			node.N = 0
		}
		if !typed(op, t, operands) {
			continue
		}
		var e []api.ExprNode
		for _, operand := range operands {
			e = append(e, randomExpr(r, operand, depth-1)...)
		}
		return append(e, node)
	}
}

// damaged returns an expression with another node, or other numbers in a node, or without a node.
func damaged(r *rand.Rand, e []api.ExprNode) []api.ExprNode {
	e = slices.Clone(e)
	i := r.Intn(len(e))
	switch r.Intn(6) {
	case 0:
		e[i].Op = r.Intn(44) - 2
	case 1:
		e[i].Type = api.Type(r.Intn(11) - 1)
	case 2:
		e[i].N = someNumbers()[r.Intn(len(someNumbers()))]
	case 3:
		return slices.Delete(e, i, i+1)
	case 4:
		return slices.Insert(e, i, e[r.Intn(len(e))])
	default:
		j := r.Intn(len(e))
		e[i], e[j] = e[j], e[i]
	}
	return e
}

// someExprs returns expressions over everyType and twoGlobals, many of them valid.
func someExprs() [][]api.ExprNode {
	r := rand.New(rand.NewSource(23))
	all := [][]api.ExprNode{nil, {}}
	for range 3000 {
		e := randomExpr(r, api.Type(1+r.Intn(int(api.V4))), r.Intn(4))
		once := damaged(r, e)
		all = append(all, e, once)
		if len(once) > 0 {
			all = append(all, damaged(r, once))
		}
	}
	return all
}

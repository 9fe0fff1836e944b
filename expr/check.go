package expr

import (
	"burnish/api"
	"burnish/opcode"
)

// Check returns the type of the value of e, or Void and the first error, for registers of f and globals of m.
func Check(e []api.ExprNode, f api.Func, m api.Module) (api.Type, api.Errno) {
	var stack []api.Type
	// evaluate replaces the types of a node's operands on the stack by that of its result.
	evaluate := func(node api.ExprNode) api.Errno {
		rest := len(stack) - operandCount(node)
		if rest < 0 {
			return api.ErrShort
		}
		result := node.Type
		if node.Op == api.OpCopy {
			result = f.Regs[node.N]
		} else if err := checkTypes(node, stack[rest:], m); err != api.OK {
			return err
		}
		stack = append(stack[:rest], result)
		return api.OK
	}
	for _, node := range e {
		err := checkFields(node, f, m)
		if err == api.OK {
			err = evaluate(node)
		}
		if err != api.OK {
			return api.Void, err
		}
	}
	switch {
	case len(stack) == 0:
		return api.Void, api.ErrShort
	case len(stack) > 1:
		return api.Void, api.ErrLong
	}
	return stack[0], api.OK
}

// checkFields returns the first error of a node that it has wherever it stands.
func checkFields(node api.ExprNode, f api.Func, m api.Module) api.Errno {
	isCopy, isGlobal := node.Op == api.OpCopy, node.Op == api.OpGlobal
	switch {
	case node.Op != api.OpLoad && !opcode.IsSpeculatable(node.Op):
		return api.ErrType
	case isCopy && !isIndex(node.N, len(f.Regs)), isGlobal && !isIndex(node.N, len(m.Globals)):
		return api.ErrNotFound
	case isCopy && node.Type != api.Void, node.N != 0 && !hasNumber(node.Op):
		return api.ErrFormat
	}
	return api.OK
}

// checkTypes returns the error of a node as an instruction with operands of the given types.
func checkTypes(node api.ExprNode, operands []api.Type, m api.Module) api.Errno {
	in := api.Instr{Op: node.Op, Type: node.Type, Dst: len(operands)}
	switch node.Op {
	case api.OpGlobal:
		in.Sym = int(node.N)
	case api.OpConst, api.OpLane:
		in.Imm = node.N
	}
	regs := make([]api.Type, 0, len(operands)+1)
	for r, t := range operands {
		in.Args = append(in.Args, r)
		regs = append(regs, t)
	}
	return opcode.Check(in, api.Func{Regs: append(regs, node.Type)}, m)
}

// operandCount returns the number of values that a node with an allowed opcode takes off the stack.
func operandCount(node api.ExprNode) int {
	switch node.Op {
	case api.OpCopy, api.OpConst, api.OpPoison, api.OpGlobal:
		return 0
	case api.OpSext, api.OpZext, api.OpTrunc, api.OpLane, api.OpLoad:
		return 1
	case api.OpSelect:
		return 3
	case api.OpPack:
		if node.Type != api.V2 {
			return 4
		}
	}
	return 2
}

// hasNumber reports whether a node with the given opcode may have an N other than 0.
func hasNumber(op int) bool {
	switch op {
	case api.OpCopy, api.OpConst, api.OpGlobal, api.OpLane:
		return true
	}
	return false
}

func isIndex(i int64, length int) bool {
	return 0 <= i && i < int64(length)
}

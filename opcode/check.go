package opcode

import (
	"burnish/api"
	"burnish/intn"
)

// Check returns the first error of an instruction of function f in module m, or OK if it keeps to DOC.md's table.
func Check(in api.Instr, f api.Func, m api.Module) api.Errno {
	switch {
	case !isOperation(in.Op):
		return api.ErrNotFound
	case hasStrayField(in):
		return api.ErrFormat
	case !symbolExists(in, m):
		return api.ErrNotFound
	case !countFits(in, m):
		return api.ErrFormat
	case !registersExist(in, f):
		return api.ErrRange
	case !typesFit(in, f, m) || !destinationFits(in, f) || in.Op == api.OpAlloca && !cells.has(in.Elem):
		return api.ErrType
	case !immediateFits(in, f):
		return api.ErrRange
	}
	return api.OK
}

// hasStrayField reports whether a field is set that the operation does not have.
func hasStrayField(in api.Instr) bool {
	wrap, imm, sym, elem := in.NoWrap, in.Imm != 0, in.Sym != 0, in.Elem != api.Void
	switch in.Op {
	case api.OpAdd, api.OpSub, api.OpMul:
		wrap = false
	case api.OpAlloca:
		elem = false
		fallthrough
	case api.OpConst, api.OpLane:
		imm = false
	case api.OpGlobal, api.OpCall:
		sym = false
	}
	return wrap || imm || sym || elem
}

func symbolExists(in api.Instr, m api.Module) bool {
	symbols := 0
	switch in.Op {
	case api.OpGlobal:
		symbols = len(m.Globals)
	case api.OpCall:
		symbols = len(m.Funcs)
	default:
		return true
	}
	return in.Sym >= 0 && in.Sym < symbols
}

// countFits reports whether the number of operands is one that the operation may have.
func countFits(in api.Instr, m api.Module) bool {
	count := len(in.Args)
	switch in.Op {
	case api.OpCall:
		return count == len(m.Funcs[in.Sym].Params)
	case api.OpPack:
		return count == 2 || count == 4
	}
	for _, types := range rules[in.Op].operands {
		if types != 0 {
			count--
		}
	}
	return count == 0
}

func isRegister(r int, f api.Func) bool {
	return r >= 0 && r < len(f.Regs)
}

func registersExist(in api.Instr, f api.Func) bool {
	for _, r := range in.Args {
		if !isRegister(r, f) {
			return false
		}
	}
	return in.Dst == -1 || isRegister(in.Dst, f)
}

// typesFit reports whether the types of the result and of the operands are as they must be.
func typesFit(in api.Instr, f api.Func, m api.Module) bool {
	if in.Op == api.OpCall {
		return callFits(in, f, m.Funcs[in.Sym])
	}
	var operands []api.Type
	for _, r := range in.Args {
		operands = append(operands, f.Regs[r])
	}
	return rules[in.Op].accepts(in.Type, operands)
}

func callFits(in api.Instr, f, callee api.Func) bool {
	for i, r := range in.Args {
		param := callee.Params[i]
		if !isRegister(param, callee) || callee.Regs[param] != f.Regs[r] {
			return false
		}
	}
	return in.Type == callee.Result
}

// destinationFits reports whether the instruction assigns its result, if it has one, to a register of its type.
func destinationFits(in api.Instr, f api.Func) bool {
	if in.Dst == -1 {
		return in.Type == api.Void || in.Op == api.OpCall
	}
	return in.Type != api.Void && in.Type == f.Regs[in.Dst]
}

// immediateFits reports whether Imm is in the range that the operation gives it.
func immediateFits(in api.Instr, f api.Func) bool {
	switch in.Op {
	case api.OpConst:
		return in.Imm == intn.Wrap(in.Type, in.Imm)
	case api.OpAlloca:
		return in.Imm >= 1 && in.Imm <= api.MaxCells
	case api.OpLane:
		_, lanes := Access(f.Regs[in.Args[0]])
		return in.Imm >= 0 && in.Imm < int64(lanes)
	}
	return true
}

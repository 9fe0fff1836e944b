package value

import (
	"burnish/api"
	"burnish/intn"
)

// applicable reports whether the instruction needs no memory, its operands are valid,
// and they and the fields that count are as DOC.md's table says.
func applicable(in api.Instr, args []api.Value) bool {
	for _, arg := range args {
		if !Valid(arg) {
			return false
		}
	}
	t := in.Type
	switch in.Op {
	case api.OpConst:
		return typed(args) && isInteger(t) && intn.Wrap(t, in.Imm) == in.Imm
	case api.OpPoison:
		return typed(args) && NumLanes(t) > 0
	case api.OpGlobal:
		return typed(args) && t == api.Ptr && in.Sym >= 0
	case api.OpFreeze:
		return typed(args, t) && t != api.Ptr
	case api.OpCopy:
		return typed(args, t)
	case api.OpAdd, api.OpSub, api.OpMul:
		return typed(args, t, t) && (isWord(t) || isVector(t))
	case api.OpAnd, api.OpOr, api.OpXor:
		return typed(args, t, t) && t != api.Ptr
	case api.OpShl, api.OpLshr, api.OpAshr, api.OpSdiv, api.OpSrem:
		return typed(args, t, t) && isWord(t)
	case api.OpEq, api.OpNe, api.OpSlt, api.OpSle, api.OpUlt:
		return canCompare(in, args)
	case api.OpSelect:
		return typed(args, api.Bool, t, t)
	case api.OpSext, api.OpZext, api.OpTrunc:
		return canConvert(in, args)
	case api.OpOffset:
		return typed(args, api.Ptr, api.I64) && t == api.Ptr
	case api.OpPack:
		return typed(args, api.I32, api.I32) && t == api.V2 ||
			typed(args, api.I32, api.I32, api.I32, api.I32) && t == api.V4
	case api.OpLane:
		return len(args) == 1 && isVector(args[0].Type) && t == api.I32 &&
			in.Imm >= 0 && in.Imm < int64(NumLanes(args[0].Type))
	}
	return false
}

// typed reports whether args have the given types.
func typed(args []api.Value, types ...api.Type) bool {
	if len(args) != len(types) {
		return false
	}
	for i, arg := range args {
		if arg.Type != types[i] {
			return false
		}
	}
	return true
}

// isWord reports whether t is an integer type with a sign.
func isWord(t api.Type) bool {
	return t == api.I8 || t == api.I32 || t == api.I64
}

func isInteger(t api.Type) bool {
	return t == api.Bool || isWord(t)
}

func isVector(t api.Type) bool {
	return t == api.V2 || t == api.V4
}

func canCompare(in api.Instr, args []api.Value) bool {
	if len(args) != 2 || args[0].Type != args[1].Type || in.Type != api.Bool {
		return false
	}
	if in.Op == api.OpEq || in.Op == api.OpNe {
		return !isVector(args[0].Type)
	}
	return isWord(args[0].Type)
}

func canConvert(in api.Instr, args []api.Value) bool {
	if len(args) != 1 || !isInteger(args[0].Type) || !isInteger(in.Type) {
		return false
	}
	from, to := intn.Bits(args[0].Type), intn.Bits(in.Type)
	switch in.Op {
	case api.OpSext: // a Bool has no sign
		return from < to && args[0].Type != api.Bool
	case api.OpZext:
		return from < to
	}
	return from > to
}

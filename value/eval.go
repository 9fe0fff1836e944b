package value

import (
	"burnish/api"
	"burnish/intn"
)

// What Eval answers instead of a result, where it is not a trap.
const (
	undefined  = 1
	unresolved = 2
)

// Eval evaluates an instruction that needs no memory. It returns the result, or a trap
// code, or status 1 for undefined behavior or 2 for an unresolved result, and zero
// values for an instruction that is not applicable to args.
func Eval(in api.Instr, args []api.Value) (v api.Value, trap int, status int) {
	if !applicable(in, args) {
		return api.Value{}, 0, 0
	}
	trap, status = fault(in, args)
	if trap != 0 || status != 0 {
		return api.Value{}, trap, status
	}
	return result(in, args), 0, 0
}

// fault returns the trap or the status of an applicable instruction that has no result.
func fault(in api.Instr, args []api.Value) (trap int, status int) {
	switch in.Op {
	case api.OpSdiv, api.OpSrem:
		divisor := args[1].Lanes[0]
		switch {
		case divisor.Poison:
			return 0, undefined
		case divisor.Unknown:
			return 0, unresolved
		case divisor.N == 0:
			return api.TrapDivide, 0
		}
	case api.OpSelect:
		if in.Type == api.Ptr && args[0].Lanes[0].Unknown {
			return 0, unresolved
		}
	}
	return 0, 0
}

// result returns the result of an applicable instruction without a fault.
func result(in api.Instr, args []api.Value) api.Value {
	switch in.Op {
	case api.OpConst:
		return Int(in.Type, in.Imm)
	case api.OpPoison:
		return Poison(in.Type)
	case api.OpGlobal:
		return Pointer(in.Sym, 0)
	case api.OpCopy:
		return args[0]
	case api.OpSelect:
		return choose(args[0].Lanes[0], args[1], args[2])
	case api.OpOffset:
		return offset(args[0], args[1].Lanes[0])
	}
	return eachLane(in.Type, func(i int) api.Lane {
		switch in.Op {
		case api.OpFreeze:
			return freeze(args[0].Lanes[i])
		case api.OpPack:
			return args[i].Lanes[0]
		case api.OpLane:
			return args[0].Lanes[in.Imm]
		case api.OpSext, api.OpZext, api.OpTrunc:
			return convert(in, args[0])
		case api.OpEq, api.OpNe, api.OpSlt, api.OpSle, api.OpUlt:
			return compare(in.Op, args[0], args[1])
		}
		return combine(in, args[0].Lanes[i], args[1].Lanes[i])
	})
}

// blend returns the lane that operands lead to where one of them is poison or unknown, and the zero Lane where none is.
func blend(operands ...api.Lane) api.Lane {
	blended := api.Lane{}
	for _, operand := range operands {
		if operand.Poison {
			return api.Lane{Poison: true}
		}
		blended.Unknown = blended.Unknown || operand.Unknown
	}
	return blended
}

func freeze(lane api.Lane) api.Lane {
	if lane.Poison {
		return api.Lane{Unknown: true}
	}
	return lane
}

// choose selects by a condition that may be anything.
func choose(condition api.Lane, yes, no api.Value) api.Value {
	switch condition {
	case api.Lane{N: 1}:
		return yes
	case api.Lane{N: 0}:
		return no
	}
	return eachLane(yes.Type, func(i int) api.Lane { return blend(condition, yes.Lanes[i], no.Lanes[i]) })
}

// offset moves a pointer within its object.
func offset(pointer api.Value, by api.Lane) api.Value {
	lane := blend(pointer.Lanes[0], by)
	if lane.Poison {
		return Poison(api.Ptr)
	}
	if !lane.Unknown {
		lane.N, _ = intn.Add(api.I64, pointer.Lanes[0].N, by.N)
	}
	return api.Value{Type: api.Ptr, Object: pointer.Object, Lanes: [4]api.Lane{lane}}
}

// convert extends or truncates an integer.
func convert(in api.Instr, v api.Value) api.Lane {
	lane := v.Lanes[0]
	switch {
	case lane.Poison || lane.Unknown:
		return lane
	case in.Op == api.OpZext:
		return api.Lane{N: intn.Zext(v.Type, in.Type, lane.N)}
	}
	return api.Lane{N: intn.Wrap(in.Type, lane.N)}
}

// compare compares integers or pointers.
func compare(op int, a, b api.Value) api.Lane {
	x, y := a.Lanes[0], b.Lanes[0]
	lane := blend(x, y)
	if lane != (api.Lane{}) {
		return lane
	}
	holds := false
	switch op {
	case api.OpEq:
		holds = a == b
	case api.OpNe:
		holds = a != b
	case api.OpSlt:
		holds = x.N < y.N
	case api.OpSle:
		holds = x.N <= y.N
	case api.OpUlt:
		holds = intn.Ult(a.Type, x.N, y.N)
	}
	if holds {
		return api.Lane{N: 1}
	}
	return api.Lane{}
}

// combine evaluates an arithmetic, bitwise or shift operation on one lane.
func combine(in api.Instr, a, b api.Lane) api.Lane {
	lane := blend(a, b)
	n, exact := compute(in.Op, laneType(in.Type), a.N, b.N)
	switch in.Op {
	case api.OpAdd, api.OpSub, api.OpMul:
		if in.NoWrap && (lane.Unknown || !exact) {
			return api.Lane{Poison: true}
		}
	case api.OpShl, api.OpLshr, api.OpAshr: // an unknown a has N 0, which any amount shifts
		if b.Unknown || !exact {
			return api.Lane{Poison: true}
		}
	}
	if lane != (api.Lane{}) {
		return lane
	}
	return api.Lane{N: n}
}

// compute evaluates an operation on two integers of type t. It returns false if a sum,
// difference or product wraps, or if a shift is by too great an amount.
func compute(op int, t api.Type, a, b int64) (n int64, exact bool) {
	wraps := false
	switch op {
	case api.OpAdd:
		n, wraps = intn.Add(t, a, b)
	case api.OpSub:
		n, wraps = intn.Sub(t, a, b)
	case api.OpMul:
		n, wraps = intn.Mul(t, a, b)
	case api.OpAnd:
		n = a & b
	case api.OpOr:
		n = a | b
	case api.OpXor:
		n = a ^ b
	case api.OpShl:
		return intn.Shl(t, a, b)
	case api.OpLshr:
		return intn.Lshr(t, a, b)
	case api.OpAshr:
		return intn.Ashr(t, a, b)
	case api.OpSdiv:
		return intn.Sdiv(t, a, b)
	case api.OpSrem:
		return intn.Srem(t, a, b)
	}
	return n, !wraps
}

package value_test

import (
	"math"
	"slices"
	"testing"

	"burnish/api"
	"burnish/intn"
	"burnish/value"
)

// binary is an operation on two operands of one type, with or without NoWrap.
func binary(op int, t api.Type, noWrap bool) api.Instr {
	return api.Instr{Op: op, Type: t, NoWrap: noWrap}
}

// expect checks that the instruction has the given result.
func expect(t *testing.T, in api.Instr, want api.Value, args ...api.Value) {
	t.Helper()
	if v, trap, status := value.Eval(in, args); v != want || trap != 0 || status != 0 {
		t.Errorf("%v on %v: %v, %d, %d, want %v", in, args, v, trap, status, want)
	}
}

// expectFault checks that the instruction has no result.
func expectFault(t *testing.T, in api.Instr, trap, status int, args ...api.Value) {
	t.Helper()
	if v, tr, st := value.Eval(in, args); v != (api.Value{}) || tr != trap || st != status {
		t.Errorf("%v on %v: %v, %d, %d, want %d, %d", in, args, v, tr, st, trap, status)
	}
}

// Example 1
func TestExample(t *testing.T) {
	expect(t, binary(api.OpAdd, api.I8, true), of(api.I8, poison), value.Int(api.I8, 127), value.Int(api.I8, 1))
	expect(t, binary(api.OpAdd, api.I8, false), value.Int(api.I8, -128), value.Int(api.I8, 127), value.Int(api.I8, 1))
	expectFault(t, binary(api.OpSdiv, api.I32, false), 0, 1, value.Int(api.I32, 7), value.Poison(api.I32))
	expect(t, binary(api.OpSelect, api.I32, false), of(api.I32, poison), value.Poison(api.Bool), value.Int(api.I32, 1), value.Int(api.I32, 2))
}

// wrapByte returns the integer of I8 that is congruent to n.
func wrapByte(n int) int64 {
	return int64((n+1<<20+128)%256 - 128)
}

// exact returns the result of an operation on two integers of I8, not wrapped, and whether it is defined.
func exact(op, a, b int) (int, bool) {
	amount := (b + 256) % 256
	inRange := amount < 8
	switch op {
	case api.OpAdd:
		return a + b, true
	case api.OpSub:
		return a - b, true
	case api.OpMul:
		return a * b, true
	case api.OpAnd:
		return a & b, true
	case api.OpOr:
		return a | b, true
	case api.OpXor:
		return a ^ b, true
	case api.OpShl:
		return a * (1 << (amount % 8)), inRange
	case api.OpLshr:
		return (a + 256) % 256 / (1 << (amount % 8)), inRange
	case api.OpAshr:
		return int(math.Floor(float64(a) / float64(int(1)<<(amount%8)))), inRange
	case api.OpSdiv:
		return int(math.Trunc(float64(a) / float64(b))), true
	}
	return int(math.Mod(float64(a), float64(b))), true // OpSrem
}

// P11.3: every operation on all pairs of integers of I8
func TestBytes(t *testing.T) {
	for op := api.OpAdd; op <= api.OpSrem; op++ {
		divides := op == api.OpSdiv || op == api.OpSrem
		for a := -128; a < 128; a++ {
			for b := -128; b < 128; b++ {
				args := []api.Value{of(api.I8, num(int64(a))), of(api.I8, num(int64(b)))}
				if divides && b == 0 {
					expectFault(t, binary(op, api.I8, false), api.TrapDivide, 0, args...)
					continue
				}
				n, defined := exact(op, a, b)
				want, wantNoWrap := of(api.I8, num(wrapByte(n))), of(api.I8, num(wrapByte(n)))
				if !defined {
					want, wantNoWrap = of(api.I8, poison), of(api.I8, poison)
				} else if op <= api.OpMul && (n < -128 || n > 127) {
					wantNoWrap = of(api.I8, poison)
				}
				expect(t, binary(op, api.I8, false), want, args...)
				expect(t, binary(op, api.I8, true), wantNoWrap, args...)
			}
		}
	}
}

// P11.3: the operations on wide integers are those of intn
func TestWords(t *testing.T) {
	operations := map[int]func(api.Type, int64, int64) (int64, bool){
		api.OpAdd: intn.Add, api.OpSub: intn.Sub, api.OpMul: intn.Mul, api.OpShl: intn.Shl, api.OpLshr: intn.Lshr, api.OpAshr: intn.Ashr, api.OpSdiv: intn.Sdiv, api.OpSrem: intn.Srem,
	}
	edges := []int64{0, 1, 2, 5, 31, 32, 63, 64, -1, -7, math.MinInt32, math.MaxInt32, math.MinInt64, math.MaxInt64, 0x123456789abcdef}
	for _, ty := range []api.Type{api.I32, api.I64} {
		for op, f := range operations {
			for _, a := range edges {
				for _, b := range edges {
					x, y := value.Int(ty, a), value.Int(ty, b)
					n, flag := f(ty, a, b)
					overflows := op <= api.OpMul && flag
					want := value.Int(ty, n)
					if op > api.OpMul && !flag {
						want = value.Poison(ty)
					}
					if (op == api.OpSdiv || op == api.OpSrem) && !flag {
						expectFault(t, binary(op, ty, false), api.TrapDivide, 0, x, y)
						continue
					}
					expect(t, binary(op, ty, false), want, x, y)
					if overflows {
						want = value.Poison(ty)
					}
					expect(t, binary(op, ty, true), want, x, y)
				}
			}
		}
	}
}

// P11.3
func TestBits(t *testing.T) {
	for _, ty := range []api.Type{api.Bool, api.I8, api.I32, api.I64, api.V2, api.V4} {
		for _, a := range []int64{0, 1, -1, 0x5a, -128, math.MinInt32, math.MaxInt64} {
			for _, b := range []int64{0, 1, -1, 0x33, 127, math.MaxInt32, math.MinInt64} {
				x, y := value.Int(ty, a), value.Int(ty, b)
				expect(t, binary(api.OpAnd, ty, false), value.Int(ty, a&b), x, y)
				expect(t, binary(api.OpOr, ty, false), value.Int(ty, a|b), x, y)
				expect(t, binary(api.OpXor, ty, false), value.Int(ty, a^b), x, y)
			}
		}
	}
}

// P11.3
func TestIntegerComparisons(t *testing.T) {
	truth := func(holds bool) api.Value {
		if holds {
			return of(api.Bool, num(1))
		}
		return of(api.Bool, num(0))
	}
	edges := []int64{0, 1, 2, 127, -1, -128, math.MinInt32, math.MaxInt32, math.MinInt64, math.MaxInt64}
	for _, ty := range []api.Type{api.Bool, api.I8, api.I32, api.I64} {
		for _, a := range edges {
			for _, b := range edges {
				x, y := value.Int(ty, a), value.Int(ty, b)
				m, n := x.Lanes[0].N, y.Lanes[0].N
				expect(t, binary(api.OpEq, api.Bool, false), truth(m == n), x, y)
				expect(t, binary(api.OpNe, api.Bool, false), truth(m != n), x, y)
				if ty != api.Bool {
					expect(t, binary(api.OpSlt, api.Bool, false), truth(m < n), x, y)
					expect(t, binary(api.OpSle, api.Bool, false), truth(m <= n), x, y)
					expect(t, binary(api.OpUlt, api.Bool, false), truth(uint64(m) < uint64(n)), x, y)
				}
			}
		}
	}
}

// P11.3
func TestConversions(t *testing.T) {
	for _, x := range []struct {
		op       int
		from, to api.Type
		n, want  int64
	}{
		{api.OpSext, api.I8, api.I32, -128, -128}, {api.OpSext, api.I8, api.I64, 127, 127}, {api.OpSext, api.I32, api.I64, -1, -1},
		{api.OpZext, api.Bool, api.I8, 1, 1}, {api.OpZext, api.Bool, api.I32, 1, 1}, {api.OpZext, api.Bool, api.I64, 0, 0},
		{api.OpZext, api.I8, api.I32, -1, 255}, {api.OpZext, api.I8, api.I64, -128, 128}, {api.OpZext, api.I32, api.I64, -1, 1<<32 - 1},
		{api.OpTrunc, api.I8, api.Bool, -1, 1}, {api.OpTrunc, api.I32, api.Bool, 2, 0}, {api.OpTrunc, api.I64, api.Bool, 1<<40 + 1, 1},
		{api.OpTrunc, api.I32, api.I8, 200, -56}, {api.OpTrunc, api.I64, api.I8, -129, 127}, {api.OpTrunc, api.I64, api.I32, 1 << 31, math.MinInt32},
	} {
		expect(t, binary(x.op, x.to, false), value.Int(x.to, x.want), value.Int(x.from, x.n))
		expect(t, binary(x.op, x.to, false), of(x.to, poison), of(x.from, poison))
		expect(t, binary(x.op, x.to, false), of(x.to, unknown), of(x.from, unknown))
	}
}

// P11.3, P11.4: a poison or unknown operand, in either place
func TestPoisonAndUnknownOperands(t *testing.T) {
	for _, s := range signatures() {
		if len(s.operands) != 2 || s.op == api.OpOffset || s.op == api.OpPack || s.op == api.OpSdiv || s.op == api.OpSrem {
			continue
		}
		ty := s.operands[0]
		shifts := s.op == api.OpShl || s.op == api.OpLshr || s.op == api.OpAshr
		wraps := s.op == api.OpAdd || s.op == api.OpSub || s.op == api.OpMul
		bad := value.Poison(ty)
		open := of(ty, []api.Lane{unknown, unknown, unknown, unknown}[:value.NumLanes(ty)]...)
		poisonResult := value.Poison(s.result)
		openResult := of(s.result, []api.Lane{unknown, unknown, unknown, unknown}[:value.NumLanes(s.result)]...)
		for _, other := range []api.Value{one(ty), of(ty), bad, open} {
			expect(t, s.instr(), poisonResult, bad, other)
			expect(t, s.instr(), poisonResult, other, bad)
		}
		for _, n := range []api.Value{one(ty), of(ty)} {
			expect(t, s.instr(), openResult, open, n)
			if shifts {
				expect(t, s.instr(), poisonResult, n, open)
			} else {
				expect(t, s.instr(), openResult, n, open)
			}
			if wraps {
				expect(t, binary(s.op, s.result, true), poisonResult, n, open)
				expect(t, binary(s.op, s.result, true), poisonResult, open, n)
				expect(t, binary(s.op, s.result, true), poisonResult, open, open)
			}
		}
		if shifts {
			expect(t, s.instr(), poisonResult, open, open)
		} else {
			expect(t, s.instr(), openResult, open, open)
		}
	}
}

// P11.4
func TestShiftsOfUnknown(t *testing.T) {
	for ty, bits := range map[api.Type]int64{api.I8: 8, api.I32: 32, api.I64: 64} {
		for _, op := range []int{api.OpShl, api.OpLshr, api.OpAshr} {
			for _, amount := range []int64{0, 1, bits - 1} {
				expect(t, binary(op, ty, false), of(ty, unknown), of(ty, unknown), of(ty, num(amount)))
			}
			for _, amount := range []int64{bits, bits + 1, -1} {
				expect(t, binary(op, ty, false), of(ty, poison), of(ty, unknown), of(ty, num(amount)))
			}
		}
	}
}

// P11.3: what the divisor is decides, whatever the dividend is
func TestDivisionFaults(t *testing.T) {
	for _, op := range []int{api.OpSdiv, api.OpSrem} {
		for _, ty := range []api.Type{api.I8, api.I32, api.I64} {
			in := binary(op, ty, false)
			for _, dividend := range []api.Value{of(ty), of(ty, num(7)), of(ty, poison), of(ty, unknown)} {
				expectFault(t, in, 0, 1, dividend, of(ty, poison))
				expectFault(t, in, 0, 2, dividend, of(ty, unknown))
				expectFault(t, in, api.TrapDivide, 0, dividend, of(ty))
			}
			expect(t, in, of(ty, poison), of(ty, poison), of(ty, num(2)))
			expect(t, in, of(ty, unknown), of(ty, unknown), of(ty, num(-1)))
		}
	}
}

// P11.3: DOC.md, Poison and Unknown
func TestFreezeAndCopy(t *testing.T) {
	v := of(api.V4, poison, unknown, num(3), poison)
	expect(t, binary(api.OpFreeze, api.V4, false), of(api.V4, unknown, unknown, num(3), unknown), v)
	expect(t, binary(api.OpCopy, api.V4, false), v, v)
	for _, ty := range types {
		for _, v := range pool(ty) {
			expect(t, binary(api.OpCopy, ty, false), v, v)
			if ty != api.Ptr && !value.HasPoison(v) {
				expect(t, binary(api.OpFreeze, ty, false), v, v)
			}
		}
		expect(t, binary(api.OpPoison, ty, false), value.Poison(ty))
	}
	for _, ty := range []api.Type{api.Bool, api.I8, api.I32, api.I64} {
		expect(t, binary(api.OpFreeze, ty, false), of(ty, unknown), of(ty, poison))
	}
}

// P11.4: a known condition selects all lanes as they are
func TestSelectByKnownCondition(t *testing.T) {
	yes, no := value.Int(api.Bool, 1), value.Int(api.Bool, 0)
	for _, ty := range types {
		in := binary(api.OpSelect, ty, false)
		for _, x := range pool(ty) {
			for _, y := range []api.Value{one(ty), value.Poison(ty)} {
				expect(t, in, x, yes, x, y)
				expect(t, in, x, no, y, x)
			}
		}
	}
}

// P11.3: DOC.md, Poison and Unknown
func TestSelectByOtherConditions(t *testing.T) {
	bad, open := of(api.Bool, poison), of(api.Bool, unknown)
	for _, ty := range types {
		in := binary(api.OpSelect, ty, false)
		for _, x := range []api.Value{one(ty), value.Poison(ty)} {
			expect(t, in, value.Poison(ty), bad, x, one(ty))
		}
	}
	x := of(api.V4, num(1), poison, unknown, num(2))
	y := of(api.V4, num(1), num(3), num(4), poison)
	expect(t, binary(api.OpSelect, api.V4, false), of(api.V4, unknown, poison, unknown, poison), open, x, y)
	expect(t, binary(api.OpSelect, api.V4, false), of(api.V4, unknown, poison, unknown, poison), open, y, x)
	for _, p := range []api.Value{at(1, num(5)), at(1, unknown), noPointer} {
		for _, q := range []api.Value{at(1, num(5)), noPointer} {
			expectFault(t, binary(api.OpSelect, api.Ptr, false), 0, 2, open, p, q)
		}
	}
}

// P11.4
func TestPointerComparisons(t *testing.T) {
	for _, x := range []struct {
		p, q   api.Value
		eq, ne api.Lane
	}{
		{at(1, num(5)), at(1, num(5)), num(1), num(0)},
		{at(1, num(5)), at(1, num(6)), num(0), num(1)},
		{at(1, num(5)), at(2, num(5)), num(0), num(1)},
		{at(-1, num(0)), at(-1, num(0)), num(1), num(0)},
		{at(-1, num(0)), at(0, num(0)), num(0), num(1)},
		{at(1, unknown), at(1, num(5)), unknown, unknown},
		{at(1, unknown), at(2, num(5)), unknown, unknown},
		{at(1, num(5)), at(2, unknown), unknown, unknown},
		{at(1, unknown), at(1, unknown), unknown, unknown},
		{noPointer, at(1, unknown), poison, poison},
		{at(0, num(0)), noPointer, poison, poison},
		{noPointer, noPointer, poison, poison},
	} {
		expect(t, binary(api.OpEq, api.Bool, false), of(api.Bool, x.eq), x.p, x.q)
		expect(t, binary(api.OpNe, api.Bool, false), of(api.Bool, x.ne), x.p, x.q)
	}
}

// P11.4
func TestOffset(t *testing.T) {
	for _, x := range []struct {
		p    api.Value
		by   api.Lane
		want api.Value
	}{
		{at(3, num(5)), num(-7), at(3, num(-2))},
		{at(-1, num(5)), num(0), at(-1, num(5))},
		{at(0, num(math.MaxInt64)), num(1), at(0, num(math.MinInt64))},
		{at(0, num(math.MinInt64)), num(-1), at(0, num(math.MaxInt64))},
		{at(3, unknown), num(1), at(3, unknown)},
		{at(3, num(5)), unknown, at(3, unknown)},
		{at(3, unknown), unknown, at(3, unknown)},
		{at(3, num(5)), poison, noPointer},
		{at(3, unknown), poison, noPointer},
		{noPointer, num(1), noPointer},
		{noPointer, unknown, noPointer},
		{noPointer, poison, noPointer},
	} {
		expect(t, binary(api.OpOffset, api.Ptr, false), x.want, x.p, of(api.I64, x.by))
	}
}

// P11.3
func TestPack(t *testing.T) {
	word := func(lane api.Lane) api.Value { return of(api.I32, lane) }
	expect(t, binary(api.OpPack, api.V2, false), of(api.V2, num(7), poison), word(num(7)), word(poison))
	expect(t, binary(api.OpPack, api.V4, false), of(api.V4, num(1), unknown, poison, num(-4)), word(num(1)), word(unknown), word(poison), word(num(-4)))
}

// P11.3: each lane of a vector is as the operation on these lanes alone
func TestVectorsLaneByLane(t *testing.T) {
	lanes := []api.Lane{num(0), num(3), num(math.MaxInt32), num(math.MinInt32), poison, unknown, num(-1)}
	for _, ty := range []api.Type{api.V2, api.V4} {
		for _, op := range []int{api.OpAdd, api.OpSub, api.OpMul, api.OpAnd, api.OpOr, api.OpXor} {
			for turn := range len(lanes) * len(lanes) {
				rotated := slices.Concat(lanes[turn/len(lanes):], lanes[:turn/len(lanes)])
				other := slices.Concat(lanes[turn%len(lanes):], lanes[:turn%len(lanes)])
				for _, noWrap := range []bool{false, true} {
					x, y, want := of(ty), of(ty), of(ty)
					for i := range value.NumLanes(ty) {
						x.Lanes[i], y.Lanes[i] = rotated[i], other[i*3%len(other)]
						scalar, _, _ := value.Eval(binary(op, api.I32, noWrap), []api.Value{of(api.I32, x.Lanes[i]), of(api.I32, y.Lanes[i])})
						want.Lanes[i] = scalar.Lanes[0]
					}
					expect(t, binary(op, ty, noWrap), want, x, y)
				}
			}
		}
	}
}

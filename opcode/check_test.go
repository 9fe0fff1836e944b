package opcode_test

import (
	"math"
	"slices"
	"strconv"
	"testing"

	"burnish/api"
	"burnish/opcode"
	"burnish/value"
)

// The registers of function(): four of each type, so that register 4*t+i has type t,
// and behind them one each of two numbers that are no types.
const (
	registers = 4 * 8
	negative  = registers
	tooGreat  = registers + 1
)

func reg(t api.Type, i int) int {
	return 4*int(t) + i
}

func function() api.Func {
	var f api.Func
	for t := api.Void; t <= api.V4; t++ {
		f.Regs = append(f.Regs, t, t, t, t)
	}
	f.Regs = append(f.Regs, -1, 8)
	return f
}

// module returns a module with two globals and some functions to call.
func module() api.Module {
	return api.Module{
		Globals: []api.Global{{Name: "a", Elem: api.I32, Len: 4}, {Name: "b", Elem: api.I8, Len: 1}},
		Funcs: []api.Func{
			{Name: "f0", Regs: []api.Type{api.I64}, Result: api.Void},
			{Name: "f1", Regs: []api.Type{api.I64, api.Ptr, api.V2, api.Bool}, Params: []int{1, 3}, Result: api.I32},
			{Name: "f2", Regs: []api.Type{api.I8}, Params: []int{0}, Result: api.Void},
			{Name: "f3", Regs: []api.Type{api.I8}, Params: []int{0, 1}, Result: api.I8},
			{Name: "f4", Regs: []api.Type{api.I8}, Params: []int{-1, 0}, Result: api.I8},
		},
	}
}

// typed returns an instruction from registers of the given types to one of type t.
func typed(op int, t api.Type, operands ...api.Type) api.Instr {
	in := api.Instr{Op: op, Type: t, Dst: -1}
	if t != api.Void {
		in.Dst = reg(t, 3)
	}
	for i, operand := range operands {
		in.Args = append(in.Args, reg(operand, i%4))
	}
	return in
}

// complete returns the instruction with what its operation needs in the other fields.
func complete(in api.Instr) api.Instr {
	if in.Op == api.OpAlloca {
		in.Elem, in.Imm = api.I32, 4
	}
	return in
}

// accepted returns an instruction of each operation that Check accepts.
func accepted() []api.Instr {
	all := []api.Instr{
		typed(api.OpConst, api.I32), typed(api.OpPoison, api.V4), typed(api.OpFreeze, api.V2, api.V2), typed(api.OpCopy, api.Ptr, api.Ptr),
		typed(api.OpSelect, api.Ptr, api.Bool, api.Ptr, api.Ptr), typed(api.OpSext, api.I64, api.I8), typed(api.OpZext, api.I8, api.Bool), typed(api.OpTrunc, api.Bool, api.I64),
		typed(api.OpGlobal, api.Ptr), complete(typed(api.OpAlloca, api.Ptr)), typed(api.OpOffset, api.Ptr, api.Ptr, api.I64), typed(api.OpLoad, api.V4, api.Ptr), typed(api.OpStore, api.Void, api.Ptr, api.V2),
		typed(api.OpCall, api.Void), typed(api.OpOutput, api.Void, api.Bool), typed(api.OpPack, api.V4, api.I32, api.I32, api.I32, api.I32), typed(api.OpLane, api.I32, api.V2),
	}
	for op := api.OpAdd; op <= api.OpSrem; op++ {
		all = append(all, typed(op, api.I32, api.I32, api.I32))
	}
	for op := api.OpEq; op <= api.OpUlt; op++ {
		all = append(all, typed(op, api.Bool, api.I8, api.I8))
	}
	return all
}

// expect checks what Check returns.
func expect(t *testing.T, why string, in api.Instr, want api.Errno) {
	t.Helper()
	if got := opcode.Check(in, function(), module()); got != want {
		t.Errorf("%s: Check(%+v) = %v, want %v", why, in, got, want)
	}
}

// Example 1
func TestExample(t *testing.T) {
	in := typed(api.OpAdd, api.I32, api.I32, api.I32)
	in.NoWrap = true
	expect(t, "example", in, api.OK)
	in.Imm = 1
	expect(t, "example with Imm", in, api.ErrFormat)
	in.Imm, in.Type = 0, api.Bool
	expect(t, "example of type Bool", in, api.ErrType)
}

// P12.2
func TestAcceptedInstructions(t *testing.T) {
	var ops []int
	for _, in := range accepted() {
		expect(t, "accepted", in, api.OK)
		ops = append(ops, in.Op)
	}
	slices.Sort(ops)
	if len(ops) != 33 || ops[0] != 1 || ops[32] != 33 {
		t.Errorf("the operations are %v", ops)
	}
}

// P12.2, step 1
func TestOperationsThatAreNone(t *testing.T) {
	for _, op := range otherNumbers {
		expect(t, "no operation", typed(op, api.I32, api.I32, api.I32), api.ErrNotFound)
		expect(t, "no operation", api.Instr{Op: op, NoWrap: true, Imm: 1, Sym: -1, Elem: 9, Args: []int{-1}, Dst: -2, Type: -1}, api.ErrNotFound)
	}
}

// P12.2, step 2
func TestStrayFields(t *testing.T) {
	for _, in := range accepted() {
		stray := func(allowed bool, why string, changed api.Instr) {
			t.Helper()
			if !allowed {
				expect(t, why, changed, api.ErrFormat)
			} else if got := opcode.Check(changed, function(), module()); got == api.ErrFormat {
				t.Errorf("%s: Check(%+v) = %v", why, changed, got)
			}
		}
		noWrap, elem := in, in
		noWrap.NoWrap, elem.Elem = true, api.I8
		stray(in.Op == api.OpAdd || in.Op == api.OpSub || in.Op == api.OpMul, "NoWrap", noWrap)
		stray(in.Op == api.OpAlloca, "Elem", elem)
		for _, n := range []int{1, -1, math.MinInt, math.MaxInt} {
			imm, sym := in, in
			imm.Imm, sym.Sym = int64(n), n
			stray(in.Op == api.OpConst || in.Op == api.OpAlloca || in.Op == api.OpLane, "Imm", imm)
			if in.Op != api.OpGlobal && in.Op != api.OpCall {
				stray(false, "Sym", sym)
			}
		}
		elem.Elem = -1
		stray(in.Op == api.OpAlloca, "Elem -1", elem)
	}
}

// P12.2, step 3
func TestSymbols(t *testing.T) {
	for sym, want := range map[int]api.Errno{0: api.OK, 1: api.OK, 2: api.ErrNotFound, -1: api.ErrNotFound, math.MinInt: api.ErrNotFound, math.MaxInt: api.ErrNotFound} {
		in := typed(api.OpGlobal, api.Ptr)
		in.Sym = sym
		expect(t, "global", in, want)
	}
	for _, sym := range []int{-1, 5, math.MinInt, math.MaxInt} {
		in := typed(api.OpCall, api.Void)
		in.Sym = sym
		expect(t, "call", in, api.ErrNotFound)
	}
	for _, in := range []api.Instr{typed(api.OpGlobal, api.Ptr), typed(api.OpCall, api.Void)} {
		if got := opcode.Check(in, function(), api.Module{}); got != api.ErrNotFound {
			t.Errorf("Check(%+v) in an empty module: %v", in, got)
		}
	}
}

// P12.2, step 4
func TestNumbersOfOperands(t *testing.T) {
	for _, in := range accepted() {
		for n := range 7 {
			if n == len(in.Args) || in.Op == api.OpPack && n == 2 {
				continue
			}
			changed := in
			changed.Args = make([]int, n)
			for i := range changed.Args {
				changed.Args[i] = -1 // what step 5 rejects
			}
			expect(t, "operands: "+strconv.Itoa(n), changed, api.ErrFormat)
		}
	}
	for n, want := range []api.Errno{api.ErrFormat, api.ErrFormat, api.OK, api.ErrFormat} {
		in := typed(api.OpCall, api.I32, []api.Type{api.Ptr, api.Bool, api.I8}[:n]...)
		in.Sym = 1
		if n == 2 {
			in.Args[0], in.Args[1] = reg(api.Ptr, 2), reg(api.Bool, 0)
		}
		expect(t, "operands of a call", in, want)
	}
}

// P12.2, step 5
func TestRegistersThatAreNone(t *testing.T) {
	noRegisters := []int{-1, tooGreat + 1, math.MinInt, math.MaxInt}
	for _, in := range accepted() {
		for i := range in.Args {
			for _, r := range noRegisters {
				changed := in
				changed.Args = slices.Clone(in.Args)
				changed.Args[i] = r
				expect(t, "operand", changed, api.ErrRange)
			}
		}
		for _, r := range append([]int{-2}, noRegisters[1:]...) {
			changed := in
			changed.Dst = r
			expect(t, "Dst", changed, api.ErrRange)
		}
		if got := opcode.Check(in, api.Func{}, module()); got != api.ErrRange && (len(in.Args) > 0 || in.Dst != -1) {
			t.Errorf("Check(%+v) in a function without registers: %v", in, got)
		}
	}
}

// allows reports whether DOC.md's table allows an operation with these types. What
// value.Eval evaluates, it knows; the other operations are here.
func allows(op int, result api.Type, operands []api.Type) bool {
	access := []api.Type{api.I8, api.I32, api.I64, api.Ptr, api.V2, api.V4}
	switch op {
	case api.OpAlloca:
		return result == api.Ptr && len(operands) == 0
	case api.OpLoad:
		return slices.Contains(access, result) && slices.Equal(operands, []api.Type{api.Ptr})
	case api.OpStore:
		return result == api.Void && len(operands) == 2 && operands[0] == api.Ptr && slices.Contains(access, operands[1])
	case api.OpOutput:
		return result == api.Void && len(operands) == 1 && value.NumLanes(operands[0]) > 0
	}
	var args []api.Value
	for _, t := range operands {
		arg := value.Int(t, 1)
		if t == api.Ptr {
			arg = value.Pointer(0, 0)
		}
		args = append(args, arg)
	}
	v, _, _ := value.Eval(api.Instr{Op: op, Type: result}, args)
	return v != (api.Value{})
}

// forTypes calls f with all lists of n types, Void among them.
func forTypes(n int, f func(list []api.Type)) {
	list := make([]api.Type, n)
	var fill func(i int)
	fill = func(i int) {
		if i == n {
			f(list)
			return
		}
		for t := api.Void; t <= api.V4; t++ {
			list[i] = t
			fill(i + 1)
		}
	}
	fill(0)
}

// P12.2, step 6, for all operations but calls, and all types
func TestTypes(t *testing.T) {
	f, m := function(), module()
	check := func(in api.Instr, operands []api.Type) {
		want := api.ErrType
		if allows(in.Op, in.Type, operands) {
			want = api.OK
		}
		if got := opcode.Check(in, f, m); got != want {
			t.Errorf("%s of type %d on %v: %v, want %v", opcode.Name(in.Op), in.Type, operands, got, want)
		}
	}
	for _, in := range accepted() {
		if in.Op == api.OpCall {
			continue
		}
		counts := []int{len(in.Args)}
		if in.Op == api.OpPack {
			counts = []int{2, 4}
		}
		for _, n := range counts {
			forTypes(n, func(operands []api.Type) {
				for result := api.Void; result <= api.V4; result++ {
					check(complete(typed(in.Op, result, operands...)), operands)
				}
			})
		}
	}
}

// P12.2, step 6: types that are none, for the result and for operands
func TestTypesThatAreNone(t *testing.T) {
	for _, in := range accepted() {
		for _, none := range []api.Type{-1, 8, 64, math.MinInt, math.MaxInt} {
			changed := in
			changed.Type = none
			expect(t, "result", changed, api.ErrType)
		}
		for i := range in.Args {
			for _, r := range []int{negative, tooGreat} {
				changed := in
				changed.Args = slices.Clone(in.Args)
				changed.Args[i] = r
				expect(t, "operand", changed, api.ErrType)
			}
		}
	}
	for _, r := range []int{negative, tooGreat} {
		expect(t, "eq of no types", api.Instr{Op: api.OpEq, Type: api.Bool, Dst: reg(api.Bool, 0), Args: []int{r, r}}, api.ErrType)
		expect(t, "copy of no type", api.Instr{Op: api.OpCopy, Type: function().Regs[r], Dst: r, Args: []int{r}}, api.ErrType)
	}
}

// P12.2, step 6
func TestCalls(t *testing.T) {
	call := func(sym, dst int, result api.Type, args ...int) api.Instr {
		return api.Instr{Op: api.OpCall, Type: result, Dst: dst, Sym: sym, Args: args}
	}
	pointer, truth, small := reg(api.Ptr, 1), reg(api.Bool, 2), reg(api.I8, 0)
	expect(t, "assigned", call(1, reg(api.I32, 0), api.I32, pointer, truth), api.OK)
	expect(t, "not assigned", call(1, -1, api.I32, pointer, truth), api.OK)
	expect(t, "without result", call(2, -1, api.Void, small), api.OK)
	expect(t, "without operands", call(0, -1, api.Void), api.OK)
	expect(t, "another result", call(1, reg(api.I64, 0), api.I64, pointer, truth), api.ErrType)
	expect(t, "a result left out", call(1, -1, api.Void, pointer, truth), api.ErrType)
	expect(t, "a result where there is none", call(2, reg(api.I8, 1), api.I8, small), api.ErrType)
	expect(t, "operands exchanged", call(1, -1, api.I32, truth, pointer), api.ErrType)
	expect(t, "another operand", call(1, -1, api.I32, pointer, small), api.ErrType)
	expect(t, "the register's number counts for nothing", call(2, -1, api.Void, truth), api.ErrType)
	expect(t, "a parameter behind the callee's registers", call(3, -1, api.I8, small, small), api.ErrType)
	expect(t, "a parameter -1", call(4, -1, api.I8, small, small), api.ErrType)
	expect(t, "assigned without result", call(2, small, api.Void, small), api.ErrType)
	expect(t, "assigned to another type", call(1, reg(api.I64, 0), api.I32, pointer, truth), api.ErrType)
}

// P12.2, step 7, and P12.3
func TestDestinations(t *testing.T) {
	for _, in := range accepted() {
		for r := -1; r <= tooGreat; r++ {
			changed := in
			changed.Dst = r
			want := api.ErrType
			if r == -1 && (in.Type == api.Void || in.Op == api.OpCall) || r >= 0 && in.Type != api.Void && function().Regs[r] == in.Type {
				want = api.OK
			}
			expect(t, "Dst "+strconv.Itoa(r), changed, want)
		}
	}
}

// P12.2, step 8
func TestImmediates(t *testing.T) {
	for _, x := range []struct {
		t      api.Type
		lo, hi int64
	}{{api.Bool, 0, 1}, {api.I8, -128, 127}, {api.I32, math.MinInt32, math.MaxInt32}, {api.I64, math.MinInt64, math.MaxInt64}} {
		in := typed(api.OpConst, x.t)
		for _, in.Imm = range []int64{x.lo, 0, x.hi} {
			expect(t, "constant", in, api.OK)
		}
		for _, in.Imm = range []int64{x.lo - 1, x.hi + 1, math.MinInt64, math.MaxInt64} {
			if x.t != api.I64 {
				expect(t, "constant", in, api.ErrRange)
			}
		}
	}
	for elem := api.Type(-1); elem <= 8; elem++ {
		in := typed(api.OpAlloca, api.Ptr)
		in.Elem = elem
		for imm, want := range map[int64]api.Errno{1: api.OK, 2: api.OK, 256: api.OK, 0: api.ErrRange, -1: api.ErrRange, 257: api.ErrRange, math.MinInt64: api.ErrRange, math.MaxInt64: api.ErrRange} {
			if elem != api.I8 && elem != api.I32 && elem != api.I64 && elem != api.Ptr {
				want = api.ErrType
			}
			in.Imm = imm
			expect(t, "alloca", in, want)
		}
	}
	for operand, lanes := range map[api.Type]int64{api.V2: 2, api.V4: 4} {
		in := typed(api.OpLane, api.I32, operand)
		for in.Imm = range lanes {
			expect(t, "lane", in, api.OK)
		}
		for _, in.Imm = range []int64{-1, lanes, lanes + 1, math.MinInt64, math.MaxInt64} {
			expect(t, "lane", in, api.ErrRange)
		}
	}
}

// P12.2: of several errors the first is returned
func TestOrderOfErrors(t *testing.T) {
	call := api.Instr{Op: api.OpCall, Type: api.Ptr, Dst: -2, Sym: 7, Args: []int{-1}, Imm: 1}
	alloca := api.Instr{Op: api.OpAlloca, Type: api.I8, Dst: 99, Args: []int{-1}, NoWrap: true, Imm: -1}
	for i, step := range []struct {
		mend func()
		want api.Errno
	}{
		{func() {}, api.ErrFormat},
		{func() { call.Imm, alloca.NoWrap = 0, false }, api.ErrNotFound},
		{func() { call.Sym = 1 }, api.ErrFormat},
		{func() { call.Args, alloca.Args = []int{-1, 0}, nil }, api.ErrRange},
		{func() { call.Args[0] = reg(api.I8, 0) }, api.ErrRange},
		{func() { call.Dst, alloca.Dst = reg(api.I64, 0), reg(api.I8, 0) }, api.ErrType},
		{func() { call.Type, alloca.Type = api.I32, api.Ptr }, api.ErrType},
		{func() { call.Args, alloca.Dst = []int{reg(api.Ptr, 0), reg(api.Bool, 0)}, reg(api.Ptr, 0) }, api.ErrType},
		{func() { call.Dst, alloca.Elem = reg(api.I32, 0), api.Ptr }, api.OK},
	} {
		step.mend()
		expect(t, "call, step "+strconv.Itoa(i), call, step.want)
		switch {
		case step.want == api.ErrNotFound: // a stack object has no symbol: its next error
			step.want = api.ErrFormat
		case step.want == api.OK: // it has its Imm besides
			step.want = api.ErrRange
		}
		expect(t, "alloca, step "+strconv.Itoa(i), alloca, step.want)
	}
	lane := api.Instr{Op: api.OpLane, Type: api.I32, Dst: reg(api.I8, 0), Args: []int{reg(api.I32, 0)}, Imm: -1}
	expect(t, "lane of no vector", lane, api.ErrType)
	lane.Args[0] = reg(api.V2, 0)
	expect(t, "lane to another type", lane, api.ErrType)
	lane.Dst = reg(api.I32, 0)
	expect(t, "no such lane", lane, api.ErrRange)
	constant := api.Instr{Op: api.OpConst, Type: api.Ptr, Dst: reg(api.Ptr, 0), Imm: 300}
	expect(t, "constant pointer", constant, api.ErrType)
	constant.Type = api.I8
	expect(t, "constant to another type", constant, api.ErrType)
	constant.Dst = reg(api.I8, 0)
	expect(t, "constant out of range", constant, api.ErrRange)
}

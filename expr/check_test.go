package expr_test

import (
	"math"
	"slices"
	"testing"

	"burnish/api"
	"burnish/expr"
)

func expectCheck(t *testing.T, name string, e []api.ExprNode, want api.Type, code api.Errno) {
	t.Helper()
	if got, err := expr.Check(e, everyType(), twoGlobals()); got != want || err != code {
		t.Errorf("%s: Check %v, %v, want %v, %v\n%v", name, got, err, want, code, e)
	}
}

// P23.1: the examples
func TestExamples(t *testing.T) {
	f := api.Func{Regs: []api.Type{api.I32}}
	sum := expr.Apply(api.OpAdd, api.I32, expr.Reg(0), expr.Const(api.I32, 1))
	if got, err := expr.Check(sum, f, api.Module{}); got != api.I32 || err != api.OK {
		t.Errorf("example 1: %v, %v", got, err)
	}
	for name, x := range map[string]struct {
		e    []api.ExprNode
		want api.Errno
	}{
		"the empty expression": {nil, api.ErrShort},
		"two values":           {joined(expr.Reg(0), expr.Reg(0)), api.ErrLong},
		"a division":           {expr.Apply(api.OpSdiv, api.I32, expr.Reg(0), expr.Reg(0)), api.ErrType},
		"no nodes":             {[]api.ExprNode{}, api.ErrShort},
	} {
		if got, err := expr.Check(x.e, f, api.Module{}); got != api.Void || err != x.want {
			t.Errorf("example 2, %s: %v, %v, want %v", name, got, err, x.want)
		}
	}
}

// P23.1: an expression with each of the allowed opcodes
func TestCheckReturnsTheType(t *testing.T) {
	apply := expr.Apply
	address := apply(api.OpOffset, api.Ptr, []api.ExprNode{{Op: api.OpGlobal, Type: api.Ptr, N: 1}}, expr.Const(api.I64, 3))
	lane := append(of(api.V4), api.ExprNode{Op: api.OpLane, Type: api.I32, N: 3})
	isLess := apply(api.OpSlt, api.Bool, lane, of(api.I32))
	for name, x := range map[string]struct {
		e    []api.ExprNode
		want api.Type
	}{
		"a register":      {of(api.V2), api.V2},
		"a constant":      {expr.Const(api.I64, math.MinInt64), api.I64},
		"true":            {expr.Const(api.Bool, 1), api.Bool},
		"poison":          {apply(api.OpPoison, api.Ptr), api.Ptr},
		"a global":        {[]api.ExprNode{{Op: api.OpGlobal, Type: api.Ptr}}, api.Ptr},
		"an address":      {address, api.Ptr},
		"a load":          {apply(api.OpLoad, api.V4, address), api.V4},
		"a load of a Ptr": {apply(api.OpLoad, api.I32, apply(api.OpLoad, api.Ptr, address)), api.I32},
		"a lane":          {lane, api.I32},
		"a comparison":    {isLess, api.Bool},
		"a select":        {apply(api.OpSelect, api.Ptr, isLess, address, of(api.Ptr)), api.Ptr},
		"two lanes":       {apply(api.OpPack, api.V2, lane, lane), api.V2},
		"four lanes":      {apply(api.OpPack, api.V4, lane, lane, of(api.I32), lane), api.V4},
		"a zext":          {apply(api.OpZext, api.I8, isLess), api.I8},
		"a sext":          {apply(api.OpSext, api.I64, of(api.I8)), api.I64},
		"a trunc":         {apply(api.OpTrunc, api.Bool, of(api.I64)), api.Bool},
		"a product":       {apply(api.OpMul, api.V2, of(api.V2), of(api.V2)), api.V2},
		"a shift":         {apply(api.OpShl, api.I8, of(api.I8), expr.Const(api.I8, -1)), api.I8},
		"a disjunction":   {apply(api.OpOr, api.Bool, isLess, of(api.Bool)), api.Bool},
		"equal pointers":  {apply(api.OpEq, api.Bool, address, of(api.Ptr)), api.Bool},
	} {
		expectCheck(t, name, x.e, x.want, api.OK)
	}
}

// P23.1: each opcode and each type, with operands of all types, too few and too many of them among these
func TestLastNode(t *testing.T) {
	types := everyType().Regs
	operands := [][]api.Type{nil, {api.I32, api.I32, api.I32}, {api.I32, api.I32, api.I32, api.I64}, {api.V2, api.I32, api.I32, api.I32}, {api.I32, api.I32, api.I32, api.I32}, {api.I32, api.I32, api.I32, api.I32, api.I32}}
	for _, a := range types {
		operands = append(operands, []api.Type{a}, []api.Type{api.Bool, a, a}, []api.Type{a, api.I32, api.I32, api.I32, api.I32})
		for _, b := range types {
			operands = append(operands, []api.Type{a, b}, []api.Type{a, b, b}, []api.Type{api.Bool, a, b})
		}
	}
	codes := map[api.Errno]int{}
	for op := -2; op <= api.OpFill+1; op++ {
		for ty := api.Void - 1; ty <= api.V4+2; ty++ {
			for _, list := range operands {
				for _, n := range []int64{0, 1, 2, 4, -1} {
					var e []api.ExprNode
					for _, operand := range list {
						e = append(e, of(operand)...)
					}
					e = append(e, api.ExprNode{Op: op, Type: ty, N: n})
					want, code := check(e, everyType(), twoGlobals())
					codes[code]++
					if got, err := expr.Check(e, everyType(), twoGlobals()); got != want || err != code {
						t.Fatalf("Check %v, %v, want %v, %v\n%v", got, err, want, code, e)
					}
				}
			}
		}
	}
	for _, code := range []api.Errno{api.OK, api.ErrType, api.ErrNotFound, api.ErrFormat, api.ErrShort, api.ErrRange, api.ErrLong} {
		if codes[code] < 30 {
			t.Errorf("%v: %d expressions", code, codes[code])
		}
	}
}

// P23.1: constants, lanes, registers and globals at their bounds
func TestNumbers(t *testing.T) {
	for _, op := range []int{api.OpConst, api.OpCopy, api.OpGlobal, api.OpLane, api.OpPoison, api.OpLoad, api.OpFreeze} {
		for ty := api.Void; ty <= api.V4; ty++ {
			for _, n := range someNumbers() {
				for _, before := range [][]api.ExprNode{nil, of(api.V2), of(api.V4), of(api.Ptr)} {
					e := append(slices.Clone(before), api.ExprNode{Op: op, Type: ty, N: n})
					want, code := check(e, everyType(), twoGlobals())
					expectCheck(t, "a number", e, want, code)
				}
			}
		}
	}
}

// P23.1: of several errors of one node the first one in the order of the document is returned, of several nodes the first one's
func TestFirstError(t *testing.T) {
	node := func(op int, t api.Type, n int64) []api.ExprNode { return []api.ExprNode{{Op: op, Type: t, N: n}} }
	for name, x := range map[string]struct {
		e    []api.ExprNode
		want api.Errno
	}{
		"not allowed, with an N":                  {node(api.OpSdiv, api.I32, 5), api.ErrType},
		"no operation, without operands":          {node(99, api.I32, 0), api.ErrType},
		"a freeze without operand":                {node(api.OpFreeze, api.I32, 0), api.ErrType},
		"no register, with a type":                {node(api.OpCopy, api.I32, 7), api.ErrNotFound},
		"a negative register":                     {node(api.OpCopy, api.Void, -1), api.ErrNotFound},
		"a register beyond 32 bits":               {node(api.OpCopy, api.Void, 1<<32), api.ErrNotFound},
		"no global, of a wrong type":              {node(api.OpGlobal, api.I32, 2), api.ErrNotFound},
		"a global beyond 32 bits":                 {node(api.OpGlobal, api.Ptr, 1<<32+1), api.ErrNotFound},
		"a register with its type":                {node(api.OpCopy, api.I32, 2), api.ErrFormat},
		"a register with no type":                 {node(api.OpCopy, -1, 2), api.ErrFormat},
		"a sum with an N, without operands":       {node(api.OpAdd, api.I32, 1), api.ErrFormat},
		"poison with an N, of no type":            {node(api.OpPoison, api.Void, 1), api.ErrFormat},
		"a load with an N, of a wrong operand":    {joined(of(api.I32), node(api.OpLoad, api.I32, 1)), api.ErrFormat},
		"a sum of no type, without operands":      {node(api.OpAdd, api.Void, 0), api.ErrShort},
		"a sum with one operand, of a wrong type": {joined(of(api.Ptr), node(api.OpAdd, api.I32, 0)), api.ErrShort},
		"a lane with a wrong N, without operand":  {node(api.OpLane, api.I32, 9), api.ErrShort},
		"a pack of no vector, with two":           {joined(of(api.I32), of(api.I32), node(api.OpPack, api.I32, 0)), api.ErrShort},
		"a pack of no vector, with four":          {joined(of(api.I32), of(api.I32), of(api.I32), of(api.I32), node(api.OpPack, api.I32, 0)), api.ErrType},
		"a constant of a wrong type, and great":   {node(api.OpConst, api.Ptr, 1<<40), api.ErrType},
		"a great constant":                        {node(api.OpConst, api.I32, 1<<40), api.ErrRange},
		"a lane of a wrong type, with a wrong N":  {joined(of(api.V2), node(api.OpLane, api.I64, 2)), api.ErrType},
		"a lane with a wrong N":                   {joined(of(api.V2), node(api.OpLane, api.I32, 2)), api.ErrRange},
		"the type of a register is not that of N": {joined(of(api.I8), of(api.I8), node(api.OpAdd, api.I32, 0)), api.ErrType},
		"operands in the wrong order":             {joined(of(api.I64), of(api.Ptr), node(api.OpOffset, api.Ptr, 0)), api.ErrType},
		"the first of two nodes":                  {joined(node(api.OpAdd, api.I32, 0), node(api.OpSdiv, api.I32, 0)), api.ErrShort},
		"the first of two, the other way round":   {joined(node(api.OpSdiv, api.I32, 0), node(api.OpAdd, api.I32, 0)), api.ErrType},
		"a later node, and two values":            {joined(of(api.I32), of(api.I32), node(api.OpCopy, api.Void, 7)), api.ErrNotFound},
		"more values than operands":               {joined(of(api.I32), of(api.I32), of(api.I32), node(api.OpAdd, api.I32, 0)), api.ErrLong},
	} {
		expectCheck(t, name, x.e, api.Void, x.want)
	}
}

// P23.1: by the definition
func TestRandomExpressions(t *testing.T) {
	codes := map[api.Errno]int{}
	for _, e := range someExprs() {
		want, code := check(e, everyType(), twoGlobals())
		codes[code]++
		expectCheck(t, "a random expression", e, want, code)
	}
	for _, code := range []api.Errno{api.OK, api.ErrType, api.ErrNotFound, api.ErrFormat, api.ErrShort, api.ErrRange, api.ErrLong} {
		if codes[code] < 20 {
			t.Errorf("%v: %d expressions", code, codes[code])
		}
	}
}

// P23.1: functions and modules that the verifier rejects
func TestCheckInWhatIsNotValid(t *testing.T) {
	odd := api.Func{Regs: []api.Type{api.Void, 99, -1, api.Bool}, Params: []int{77}}
	for r, want := range odd.Regs {
		if got, err := expr.Check(expr.Reg(r), odd, api.Module{}); got != want || err != api.OK {
			t.Errorf("register %d: %v, %v", r, got, err)
		}
		if got, err := expr.Check(expr.Apply(api.OpSelect, want, expr.Reg(3), expr.Reg(r), expr.Reg(r)), odd, api.Module{}); (err == api.OK) != (want == api.Bool) || err != api.OK && (got != api.Void || err != api.ErrType) {
			t.Errorf("a select of register %d: %v, %v", r, got, err)
		}
	}
	global := []api.ExprNode{{Op: api.OpGlobal, Type: api.Ptr, N: 39}}
	if got, err := expr.Check(global, api.Func{}, api.Module{Globals: make([]api.Global, 40)}); got != api.Ptr || err != api.OK {
		t.Errorf("global 39 of 40: %v, %v", got, err)
	}
	if got, err := expr.Check(global, api.Func{}, api.Module{Funcs: make([]api.Func, 40)}); got != api.Void || err != api.ErrNotFound {
		t.Errorf("no globals: %v, %v", got, err)
	}
}

// P23.5
func TestCheckWithMoreRegistersAndGlobals(t *testing.T) {
	f, m := everyType(), twoGlobals()
	f.Regs = append(f.Regs, api.Bool, 99, api.Void)
	f.Name, f.Params, f.Result, f.Blocks = "other", []int{3, 3}, api.I8, make([]api.Block, 2)
	m.Globals = append(m.Globals, api.Global{Name: "c"}, api.Global{})
	m.Funcs = []api.Func{f}
	accepted := 0
	for _, e := range someExprs() {
		want, code := expr.Check(e, everyType(), twoGlobals())
		if code != api.OK {
			continue
		}
		accepted++
		if got, err := expr.Check(e, f, m); got != want || err != api.OK {
			t.Errorf("%v, %v, want %v\n%v", got, err, want, e)
		}
	}
	if accepted < 3000 {
		t.Errorf("%d expressions", accepted)
	}
}

// P23.1: long expressions, whose values wait on the stack or are used at once
func TestLongExpressions(t *testing.T) {
	const length = 200000
	wide := slices.Repeat(of(api.I32), length)
	deep := of(api.I32)
	for range length - 1 {
		wide = append(wide, api.ExprNode{Op: api.OpAdd, Type: api.I32})
		deep = append(deep, api.ExprNode{Op: api.OpCopy, N: 2}, api.ExprNode{Op: api.OpAdd, Type: api.I32})
	}
	expectLong := func(name string, e []api.ExprNode, code api.Errno) {
		t.Helper()
		if _, err := expr.Check(e, everyType(), api.Module{}); err != code {
			t.Errorf("%s: %v", name, err)
		}
	}
	expectLong("wide", wide, api.OK)
	expectLong("deep", deep, api.OK)
	expectLong("wide, with an operation too many", append(wide, wide[len(wide)-1]), api.ErrShort)
	expectLong("deep, with an operation too few", deep[:len(deep)-1], api.ErrLong)
}

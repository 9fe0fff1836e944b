package interp_test

import (
	"math"
	"strings"
	"testing"

	"burnish/api"
	"burnish/interp"
	"burnish/value"
)

const quotientText = "func f ( 0 1 ) i32\nregs i32 i32 i32\nblock 0 ( )\n2 = sdiv i32 ( 0 1 )\nreturn ( 2 )\n"

// Example 1
func TestExample(t *testing.T) {
	expectOutcome(t, "7 by 2", run(t, quotientText, plenty(), i32(7), i32(2)), api.Outcome{Kind: api.Returned, Steps: 2, Result: i32(3)})
	expectOutcome(t, "7 by 0", run(t, quotientText, plenty(), i32(7), i32(0)), api.Outcome{Kind: api.Trapped, Code: api.TrapDivide, Steps: 1})
	expectOutcome(t, "7 by poison", run(t, quotientText, plenty(), i32(7), of(api.I32, poison)), api.Outcome{Kind: api.Undefined, Steps: 1})
	symbolic := plenty()
	symbolic.Symbolic = true
	text := strings.Replace(quotientText, "2 = sdiv", "1 = freeze i32 ( 1 )\n2 = sdiv", 1)
	expectOutcome(t, "7 by unknown", run(t, text, symbolic, i32(7), of(api.I32, poison)), api.Outcome{Kind: api.Unresolved, Steps: 2})
}

// P18.2: every operation that needs no memory
func TestPureOperations(t *testing.T) {
	text := `func f ( 0 1 2 3 4 5 ) void
regs bool i8 i32 i64 ptr v2 v4 bool i8 i32 i64 ptr v2
block 0 ( )
8 = const i8 ( ) -3
output ( 8 )
6 = poison v4 ( )
output ( 6 )
11 = copy ptr ( 4 )
output ( 11 )
8 = add nowrap i8 ( 1 1 )
output ( 8 )
8 = add i8 ( 1 1 )
output ( 8 )
9 = sub i32 ( 2 2 )
output ( 9 )
12 = mul v2 ( 5 5 )
output ( 12 )
7 = and bool ( 0 0 )
output ( 7 )
12 = or v2 ( 5 5 )
output ( 12 )
10 = xor i64 ( 3 3 )
output ( 10 )
9 = const i32 ( ) 4
9 = shl i32 ( 2 9 )
output ( 9 )
8 = const i8 ( ) 7
8 = lshr i8 ( 1 8 )
output ( 8 )
8 = ashr i8 ( 1 1 )
output ( 8 )
10 = const i64 ( ) -3
10 = srem i64 ( 3 10 )
output ( 10 )
7 = eq bool ( 4 4 )
output ( 7 )
7 = ne bool ( 4 4 )
output ( 7 )
7 = slt bool ( 1 1 )
output ( 7 )
7 = sle bool ( 1 1 )
output ( 7 )
7 = ult bool ( 2 9 )
output ( 7 )
9 = select i32 ( 0 2 9 )
output ( 9 )
10 = sext i64 ( 1 )
output ( 10 )
10 = zext i64 ( 1 )
output ( 10 )
7 = trunc bool ( 2 )
output ( 7 )
11 = offset ptr ( 4 3 )
output ( 11 )
6 = pack v4 ( 2 9 2 9 )
output ( 6 )
9 = lane i32 ( 5 ) 1
output ( 9 )
return ( )
`
	args := []api.Value{of(api.Bool, num(1)), of(api.I8, num(-100)), i32(6), of(api.I64, num(11)), at(0, num(2)), of(api.V2, num(-3), poison)}
	m := module(t, "global g i8 1\n"+text)
	o := interp.Run(m, 0, api.Input{Args: args}, plenty())
	want := "i8 -3; v4 poison poison poison poison; ptr 0 2; i8 poison; i8 56; i32 0; v2 9 poison; bool 1; v2 -3 poison; i64 0; i32 96; i8 1; i8 poison; i64 2; bool 1; bool 0; bool 0; bool 1; bool 1; i32 6; i64 -100; i64 156; bool 0; ptr 0 13; v4 6 6 6 6; i32 poison"
	if o.Kind != api.Returned || listed(o.Output) != want || o.Steps != 56 {
		t.Errorf("%s\nwant %s", shown(o), want)
	}
}

// P18.2: the registers of a new frame are poison, except for the parameters.
func TestNewFrames(t *testing.T) {
	expectOutput(t, "func f ( 2 ) void\nregs bool i8 i32 i64 ptr v2 v4\nblock 0 ( )\noutput ( 0 )\noutput ( 1 )\noutput ( 2 )\noutput ( 3 )\noutput ( 4 )\noutput ( 5 )\noutput ( 6 )\nreturn ( )\n",
		plenty(), "bool poison; i8 poison; i32 4; i64 poison; ptr poison; v2 poison poison; v4 poison poison poison poison", i32(4))
	// A frame does not see what another one, in whose place or on top of which it starts, has assigned.
	frames := `func f ( ) void
regs i32 i32 i32
block 0 ( )
1 = const i32 ( ) 1
0 = call i32 ( 1 ) g
output ( 0 )
2 = call i32 ( 0 ) g
output ( 0 )
output ( 1 )
output ( 2 )
call ( ) h
output ( 1 )
tailcall h ( )
func g ( 3 ) i32
regs i32 i32 i32 i32
block 0 ( )
output ( 0 )
output ( 2 )
0 = add i32 ( 3 3 )
2 = copy i32 ( 0 )
return ( 2 )
func h ( ) void
regs i32 i32 i32 i32
block 0 ( )
output ( 3 )
output ( 2 )
output ( 1 )
output ( 0 )
return ( )
`
	undefined := "i32 poison; i32 poison; "
	expectOutput(t, frames, plenty(), undefined+"i32 2; "+undefined+"i32 2; i32 1; i32 4; "+undefined+undefined+"i32 1; "+undefined+"i32 poison; i32 poison")
}

// P18.2: a frame of a function that calls itself has registers of its own.
func TestRecursion(t *testing.T) {
	text := `func factorial ( 0 ) i64
regs i64 bool i64 i64
block 0 ( )
2 = const i64 ( ) 1
1 = sle bool ( 0 2 )
branch 1 1 ( ) 2 ( )
block 1 ( )
return ( 2 )
block 2 ( )
3 = sub i64 ( 0 2 )
3 = call i64 ( 3 ) factorial
2 = mul i64 ( 0 3 )
return ( 2 )
`
	expectOutcome(t, "20!", run(t, text, plenty(), value.Int(api.I64, 20)), api.Outcome{Kind: api.Returned, Result: value.Int(api.I64, 2432902008176640000), Steps: 19*7 + 4})
}

// P18.2: OpFreeze chooses lane by lane, and leaves what is not poison.
func TestFreeze(t *testing.T) {
	text := `func f ( 0 1 2 3 4 5 ) void
regs bool i8 i32 i64 v2 v4
block 0 ( )
0 = freeze bool ( 0 )
output ( 0 )
1 = freeze i8 ( 1 )
output ( 1 )
2 = freeze i32 ( 2 )
output ( 2 )
3 = freeze i64 ( 3 )
output ( 3 )
4 = freeze v2 ( 4 )
output ( 4 )
5 = freeze v4 ( 5 )
output ( 5 )
5 = freeze v4 ( 5 )
output ( 5 )
return ( )
`
	args := []api.Value{of(api.Bool, poison), of(api.I8, poison), of(api.I32, poison), of(api.I64, poison), of(api.V2, num(3), poison), of(api.V4, poison, num(-4), num(0), poison)}
	for choice, want := range map[int64]string{
		0:             "bool 0; i8 0; i32 0; i64 0; v2 3 0; v4 0 -4 0 0; v4 0 -4 0 0",
		200:           "bool 0; i8 -56; i32 200; i64 200; v2 3 200; v4 200 -4 0 200; v4 200 -4 0 200",
		-1:            "bool 1; i8 -1; i32 -1; i64 -1; v2 3 -1; v4 -1 -4 0 -1; v4 -1 -4 0 -1",
		math.MinInt64: "bool 0; i8 0; i32 0; i64 -9223372036854775808; v2 3 0; v4 0 -4 0 0; v4 0 -4 0 0",
		1<<31 + 1:     "bool 1; i8 1; i32 -2147483647; i64 2147483649; v2 3 -2147483647; v4 -2147483647 -4 0 -2147483647; v4 -2147483647 -4 0 -2147483647",
	} {
		lim := plenty()
		lim.Choice = choice
		expectOutput(t, text, lim, want, args...)
		lim.Symbolic = true
		expectOutput(t, text, lim, "bool unknown; i8 unknown; i32 unknown; i64 unknown; v2 3 unknown; v4 unknown -4 0 unknown; v4 unknown -4 0 unknown", args...)
	}
	good := []api.Value{of(api.Bool, num(1)), of(api.I8, num(5)), i32(5), of(api.I64, num(5)), of(api.V2, num(1), num(2)), of(api.V4, num(1), num(2), num(3), num(4))}
	lim := plenty()
	lim.Symbolic, lim.Choice = true, 9
	expectOutput(t, text, lim, "bool 1; i8 5; i32 5; i64 5; v2 1 2; v4 1 2 3 4; v4 1 2 3 4", good...)
}

// P18.2: Kind and Steps are set always, the other fields for some kinds only.
func TestFieldsOfOutcomes(t *testing.T) {
	head := "global g i32 1 = 4\nfunc f ( 0 ) i32\nregs i32 ptr bool\nblock 0 ( )\n1 = global ptr ( ) g\nstore ( 1 0 )\noutput ( 0 )\n"
	seven := []api.Value{i32(7)}
	cells := [][]api.Value{seven}
	for tail, want := range map[string]api.Outcome{
		"return ( 0 )\n": {Kind: api.Returned, Steps: 4, Result: i32(7), Output: seven, Cells: cells},
		"trap 200\n":     {Kind: api.Trapped, Steps: 4, Code: 200, Output: seven},
		"trap 16\n":      {Kind: api.Trapped, Steps: 4, Code: 16, Output: seven},
		"1 = poison ptr ( )\n0 = load i32 ( 1 )\nreturn ( 0 )\n":                         {Kind: api.Undefined, Steps: 5},
		"0 = poison i32 ( )\n0 = freeze i32 ( 0 )\n0 = sdiv i32 ( 0 0 )\nreturn ( 0 )\n": {Kind: api.Unresolved, Steps: 6},
		"0 = call i32 ( 0 ) f\nreturn ( 0 )\n":                                           {Kind: api.Exhausted, Steps: 12, Output: []api.Value{i32(7), i32(7), i32(7)}},
	} {
		lim := plenty()
		lim.Frames, lim.Symbolic = 3, true
		expectOutcome(t, tail, run(t, head+tail, lim, i32(7)), want)
	}
	void := module(t, "func f ( ) void\nregs\nblock 0 ( )\nreturn ( )\n")
	expectOutcome(t, "void", interp.Run(void, 0, api.Input{}, plenty()), api.Outcome{Kind: api.Returned, Steps: 1})
}

// P18.2: pointers to stack objects, and no others, lose their numbers on the way out.
func TestPointersInOutcomes(t *testing.T) {
	text := `global g ptr 4
global h i8 2
func f ( 0 ) ptr
regs ptr ptr ptr ptr i64 bool
block 0 ( )
1 = global ptr ( ) h
2 = alloca ptr ( ) i8 3
4 = const i64 ( ) 2
2 = offset ptr ( 2 4 )
output ( 1 )
output ( 2 )
output ( 3 )
store ( 0 2 )
3 = global ptr ( ) g
3 = offset ptr ( 3 4 )
store ( 3 1 )
3 = load ptr ( 0 )
5 = eq bool ( 3 2 )
output ( 5 )
return ( 3 )
`
	m := module(t, text)
	o := interp.Run(m, 0, api.Input{Args: []api.Value{at(0, num(1))}}, plenty())
	want := api.Outcome{Kind: api.Returned, Steps: 15, Result: at(-1, num(2)),
		Output: []api.Value{at(1, num(0)), at(-1, num(2)), at(0, poison), of(api.Bool, num(1))},
		Cells:  [][]api.Value{{at(0, poison), at(-1, num(2)), at(1, num(0)), at(0, poison)}, {of(api.I8, poison), of(api.I8, poison)}}}
	expectOutcome(t, "pointers", o, want)
	bare := "func f ( ) ptr\nregs ptr ptr i64\nblock 0 ( )\n1 = alloca ptr ( ) i8 1\noutput ( 1 )\noutput ( 0 )\n2 = freeze i64 ( 2 )\n1 = offset ptr ( 1 2 )\noutput ( 1 )\nreturn ( 0 )\n"
	lim := plenty()
	lim.Symbolic = true
	expectOutcome(t, "without globals", run(t, bare, lim), api.Outcome{Kind: api.Returned, Steps: 7, Result: at(0, poison), Output: []api.Value{at(-1, num(0)), at(0, poison), at(-1, unknown)}})
	expectOutcome(t, "unknown", run(t, strings.Replace(bare, "return ( 0 )", "return ( 1 )", 1), lim), api.Outcome{Kind: api.Returned, Steps: 7, Result: at(-1, unknown), Output: []api.Value{at(-1, num(0)), at(0, poison), at(-1, unknown)}})
}

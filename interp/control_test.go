package interp_test

import (
	"math"
	"strconv"
	"strings"
	"testing"

	"burnish/api"
	"burnish/interp"
	"burnish/value"
)

// P18.2: an edge reads all its arguments before it assigns one.
func TestEdgesAssignAtOnce(t *testing.T) {
	text := `func f ( 0 1 2 3 ) void
regs i32 i32 i32 bool
block 0 ( )
jump 1 ( 1 2 0 )
block 1 ( 0 1 2 )
output ( 0 )
output ( 1 )
output ( 2 )
branch 3 2 ( 1 0 ) 3 ( 2 2 )
block 2 ( 0 1 )
output ( 0 )
output ( 1 )
switch 2 ( 1 ) 3 ( 0 1 ) 3 ( 0 0 )
block 3 ( 1 0 )
output ( 0 )
output ( 1 )
return ( )
`
	expectOutput(t, text, plenty(), "i32 2; i32 3; i32 1; i32 3; i32 2; i32 2; i32 3", i32(1), i32(2), i32(3), of(api.Bool, num(1)))
	expectOutput(t, text, plenty(), "i32 2; i32 3; i32 1; i32 1; i32 1", i32(1), i32(2), i32(3), of(api.Bool))
	expectOutput(t, text, plenty(), "i32 2; i32 3; i32 poison; i32 poison; i32 poison", of(api.I32, poison), i32(2), i32(3), of(api.Bool))
}

// chooser returns a function that ends with the trap 16 + i if its terminator, with n edges, takes edge i.
func chooser(ty, terminator string, n int) string {
	text := "func f ( 0 ) void\nregs " + ty + "\nblock 0 ( )\n0 = freeze " + ty + " ( 0 )\njump 1 ( )\nblock 1 ( )\n" + terminator
	for i := range n {
		text += " " + strconv.Itoa(2+i) + " ( )"
	}
	for i := range n {
		text += "\nblock " + strconv.Itoa(2+i) + " ( )\ntrap " + strconv.Itoa(16+i)
	}
	return text + "\n"
}

// P18.2
func TestBranchAndSwitch(t *testing.T) {
	branch := chooser("bool", "branch 0", 2)
	small := chooser("i32", "switch 0 ( 5 -2147483648 0 )", 4)
	large := chooser("i64", "switch 0 ( 4294967296 -1 )", 3)
	only := chooser("i32", "switch 0 ( )", 1)
	for _, x := range []struct {
		text string
		arg  api.Value
		edge int
	}{
		{branch, of(api.Bool, num(1)), 0}, {branch, of(api.Bool, num(0)), 1},
		{small, i32(5), 0}, {small, i32(math.MinInt32), 1}, {small, i32(0), 2}, {small, i32(1), 3}, {small, i32(-1), 3},
		{large, value.Int(api.I64, 1<<32), 0}, {large, value.Int(api.I64, -1), 1}, {large, value.Int(api.I64, 0), 2}, {large, value.Int(api.I64, math.MaxInt64), 2},
		{only, i32(0), 0}, {only, i32(1), 0},
	} {
		expectOutcome(t, x.text, run(t, x.text, plenty(), x.arg), api.Outcome{Kind: api.Trapped, Code: 16 + x.edge, Steps: 4})
		lim := plenty()
		lim.Choice = x.arg.Lanes[0].N
		expectOutcome(t, x.text, run(t, x.text, lim, of(x.arg.Type, poison)), api.Outcome{Kind: api.Trapped, Code: 16 + x.edge, Steps: 4})
		lim.Symbolic = true
		expectOutcome(t, x.text, run(t, x.text, lim, of(x.arg.Type, poison)), api.Outcome{Kind: api.Unresolved, Steps: 3})
		frozen := strings.Replace(x.text, "freeze", "copy", 1)
		expectOutcome(t, x.text, run(t, frozen, lim, of(x.arg.Type, poison)), api.Outcome{Kind: api.Undefined, Steps: 3})
	}
}

// P18.2: OpSelect between pointers by an unknown condition is unresolved, other selects are not.
func TestUnresolvedSelect(t *testing.T) {
	text := "global g i8 1\nfunc f ( 0 1 2 ) i32\nregs bool ptr i32\nblock 0 ( )\n0 = freeze bool ( 0 )\n2 = select i32 ( 0 2 2 )\noutput ( 2 )\n1 = select ptr ( 0 1 1 )\nreturn ( 2 )\n"
	lim := plenty()
	lim.Symbolic = true
	args := []api.Value{of(api.Bool, poison), at(0, num(0)), i32(4)}
	expectOutcome(t, "unknown", run(t, text, lim, args...), api.Outcome{Kind: api.Unresolved, Steps: 4})
	args[0] = of(api.Bool, num(1))
	expectOutcome(t, "known", run(t, text, lim, args...), api.Outcome{Kind: api.Returned, Result: i32(4), Output: []api.Value{i32(4)}, Cells: [][]api.Value{{of(api.I8, poison)}}, Steps: 5})
	args[0], args[1] = of(api.Bool, poison), at(0, poison)
	lim.Symbolic = false
	expectOutcome(t, "chosen", run(t, text, lim, args...), api.Outcome{Kind: api.Returned, Result: i32(4), Output: []api.Value{i32(4)}, Cells: [][]api.Value{{of(api.I8, poison)}}, Steps: 5})
}

// P18.2
func TestCalls(t *testing.T) {
	text := `func f ( 0 1 ) i64
regs i32 i64 i64 ptr
block 0 ( )
2 = call i64 ( 1 0 ) g
output ( 2 )
call i64 ( 2 0 ) g
output ( 2 )
call ( ) h
3 = call ptr ( ) k
output ( 3 )
return ( 2 )
func g ( 2 0 ) i64
regs i32 i64 i64 i64
block 0 ( )
1 = sext i64 ( 0 )
3 = mul i64 ( 1 2 )
output ( 3 )
return ( 3 )
func h ( ) void
regs i8
block 0 ( )
output ( 0 )
return ( )
func k ( ) ptr
regs ptr
block 0 ( )
0 = alloca ptr ( ) i64 1
return ( 0 )
`
	expectOutcome(t, "calls", run(t, text, plenty(), i32(3), value.Int(api.I64, 5)), api.Outcome{
		Kind: api.Returned, Steps: 8 + 4 + 4 + 2 + 2, Result: value.Int(api.I64, 15),
		Output: []api.Value{value.Int(api.I64, 15), value.Int(api.I64, 15), value.Int(api.I64, 45), value.Int(api.I64, 15), of(api.I8, poison), at(-1, num(0))}})
}

// P18.2: what ends the run in a callee ends it as a whole.
func TestEndsInCallees(t *testing.T) {
	caller := "func f ( ) void\nregs i32\nblock 0 ( )\noutput ( 0 )\ncall ( ) g\noutput ( 0 )\nreturn ( )\nfunc g ( ) void\nregs i32 ptr bool\nblock 0 ( )\n"
	output := []api.Value{of(api.I32, poison)}
	for body, want := range map[string]api.Outcome{
		"trap 99\n":                                               {Kind: api.Trapped, Code: 99, Steps: 3, Output: output},
		"0 = sdiv i32 ( 0 0 )\nreturn ( )\n":                      {Kind: api.Undefined, Steps: 3},
		"jump 1 ( )\nblock 1 ( )\njump 1 ( )\n":                   {Kind: api.Exhausted, Steps: 10000, Output: output},
		"branch 2 1 ( ) 1 ( )\nblock 1 ( )\ntrap 16\n":            {Kind: api.Undefined, Steps: 3},
		"0 = const i32 ( ) 0\n0 = srem i32 ( 0 0 )\nreturn ( )\n": {Kind: api.Trapped, Code: api.TrapDivide, Steps: 4, Output: output},
	} {
		expectOutcome(t, body, run(t, caller+body, plenty()), want)
	}
}

const tailText = `func f ( 0 ) i64
regs i64 i64 ptr
block 0 ( )
1 = const i64 ( ) 1
1 = call i64 ( 0 1 ) g
output ( 1 )
tailcall g ( 1 1 )
func g ( 0 1 ) i64
regs i64 i64 bool i64
block 0 ( )
3 = const i64 ( ) 0
2 = eq bool ( 0 3 )
branch 2 1 ( ) 2 ( )
block 1 ( )
return ( 1 )
block 2 ( )
3 = const i64 ( ) -1
1 = mul i64 ( 0 1 )
0 = add i64 ( 0 3 )
tailcall g ( 0 1 )
`

// P18.2: a tail call needs no further frame, and its result goes to the caller's register.
func TestTailCalls(t *testing.T) {
	want := api.Outcome{Kind: api.Returned, Result: value.Int(api.I64, 6*720), Output: []api.Value{value.Int(api.I64, 6)}, Steps: 4 + 3*7 + 4 + 6*7 + 4}
	lim := plenty()
	for _, lim.Frames = range []int{2, 3, api.MaxFrames} {
		expectOutcome(t, "3! and 6!", run(t, tailText, lim, value.Int(api.I64, 3)), want)
	}
	lim.Frames = 1
	expectOutcome(t, "one frame", run(t, tailText, lim, value.Int(api.I64, 3)), api.Outcome{Kind: api.Exhausted, Steps: 2})
	forever := "func f ( 0 1 ) void\nregs i32 i32\nblock 0 ( )\noutput ( 0 )\ntailcall f ( 1 0 )\n"
	lim.Steps = 7
	expectOutcome(t, "forever", run(t, forever, lim, i32(1), i32(2)), api.Outcome{Kind: api.Exhausted, Steps: 7, Output: []api.Value{i32(1), i32(2), i32(1), i32(2)}})
}

// P18.2: in a run whose first frame tail calls, the result is the run's.
func TestTailCallOfTheFirstFrame(t *testing.T) {
	text := "func f ( 0 ) ptr\nregs ptr ptr\nblock 0 ( )\n1 = alloca ptr ( ) i32 1\ntailcall g ( 1 0 )\nfunc g ( 0 1 ) ptr\nregs ptr ptr ptr bool\nblock 0 ( )\n2 = alloca ptr ( ) i32 1\n3 = eq bool ( 0 2 )\noutput ( 3 )\noutput ( 0 )\nreturn ( 1 )\n"
	m := module(t, "global g i8 1\n"+text)
	o := interp.Run(m, 0, api.Input{Args: []api.Value{at(0, num(3))}}, plenty())
	expectOutcome(t, "f", o, api.Outcome{Kind: api.Returned, Steps: 7, Result: at(0, num(3)), Output: []api.Value{of(api.Bool), at(-1, num(0))}, Cells: [][]api.Value{{of(api.I8, poison)}}})
}

package interp_test

import (
	"strings"
	"testing"

	"burnish/api"
	"burnish/interp"
)

// accessText has a load and a store through a pointer, moved by an offset that is frozen.
const accessText = `global g i32 3 = 1 2 3
global r i32 3 readonly = 4 5 6
func f ( 0 1 ) v2
regs ptr i64 v2
block 0 ( )
1 = freeze i64 ( 1 )
0 = offset ptr ( 0 1 )
2 = load v2 ( 0 )
store ( 0 2 )
return ( 2 )
`

// P18.2
func TestStatusesOfAccesses(t *testing.T) {
	cells := [][]api.Value{{i32(1), i32(2), i32(3)}, {i32(4), i32(5), i32(6)}}
	loaded := api.Outcome{Kind: api.Returned, Steps: 5, Result: of(api.V2, num(2), num(3)), Cells: cells}
	lim := plenty()
	lim.Choice, lim.Symbolic = 1, true
	for _, x := range []struct {
		why          string
		p, offset    api.Value
		want, chosen api.Outcome
	}{
		{"within", at(0, num(0)), of(api.I64, num(1)), loaded, loaded},
		{"outside", at(0, num(0)), of(api.I64, num(2)), api.Outcome{Kind: api.Trapped, Code: api.TrapMemory, Steps: 3}, api.Outcome{Kind: api.Trapped, Code: api.TrapMemory, Steps: 3}},
		{"read only", at(1, num(0)), of(api.I64, num(0)), api.Outcome{Kind: api.Trapped, Code: api.TrapMemory, Steps: 4}, api.Outcome{Kind: api.Trapped, Code: api.TrapMemory, Steps: 4}},
		{"poison", at(0, poison), of(api.I64, num(0)), api.Outcome{Kind: api.Undefined, Steps: 3}, api.Outcome{Kind: api.Undefined, Steps: 3}},
		{"unknown", at(0, num(0)), of(api.I64, poison), api.Outcome{Kind: api.Unresolved, Steps: 3}, loaded},
	} {
		args := []api.Value{x.p, x.offset}
		lim.Symbolic = true
		expectOutcome(t, x.why, run(t, accessText, lim, args...), x.want)
		lim.Symbolic = false
		expectOutcome(t, x.why, run(t, accessText, lim, args...), x.chosen)
		storeOnly := strings.Replace(accessText, "2 = load v2 ( 0 )\n", "", 1)
		if o := run(t, storeOnly, lim, args...); o.Kind != x.chosen.Kind || o.Code != x.chosen.Code {
			t.Errorf("%s, store only: %s", x.why, shown(o))
		}
	}
}

// P18.2, P18.6: what is stored is in the outcome, what is read only stays.
func TestFinalCells(t *testing.T) {
	text := `global a i8 2 = 1 2
global b i64 1
global c ptr 1
global d i32 4 readonly
func f ( 0 1 ) void
regs i8 i64 ptr i64 v4
block 0 ( )
2 = global ptr ( ) a
3 = const i64 ( ) 1
2 = offset ptr ( 2 3 )
store ( 2 0 )
2 = global ptr ( ) b
store ( 2 1 )
2 = global ptr ( ) c
store ( 2 2 )
2 = global ptr ( ) d
4 = load v4 ( 2 )
output ( 4 )
return ( )
`
	in := api.Input{Args: []api.Value{of(api.I8, num(-7)), of(api.I64, poison)}, Cells: [][]api.Value{{of(api.I8, num(9))}, {of(api.I64, num(9))}, nil, {i32(1), i32(2), of(api.I32, poison)}}}
	want := api.Outcome{Kind: api.Returned, Steps: 12, Output: []api.Value{of(api.V4, num(1), num(2), poison, poison)},
		Cells: [][]api.Value{{of(api.I8, num(9)), of(api.I8, num(-7))}, {of(api.I64, poison)}, {at(2, num(0))}, {i32(1), i32(2), of(api.I32, poison), of(api.I32, poison)}}}
	expectOutcome(t, "stores", interp.Run(module(t, text), 0, in, plenty()), want)
}

// P18.2: the stack objects of a frame end with it, by a return or by a tail call.
func TestStackObjectsEnd(t *testing.T) {
	text := `func f ( ) i32
regs i32 ptr ptr
block 0 ( )
1 = alloca ptr ( ) i32 1
0 = const i32 ( ) 8
store ( 1 0 )
0 = call i32 ( 1 ) read
2 = call ptr ( 1 ) make
0 = call i32 ( 1 ) read
output ( 0 )
tailcall read ( 2 )
func read ( 0 ) i32
regs ptr i32
block 0 ( )
1 = load i32 ( 0 )
return ( 1 )
func make ( 0 ) ptr
regs ptr ptr i32
block 0 ( )
1 = alloca ptr ( ) i32 1
2 = load i32 ( 0 )
store ( 1 2 )
2 = call i32 ( 1 ) read
output ( 2 )
return ( 1 )
`
	want := api.Outcome{Kind: api.Trapped, Code: api.TrapMemory, Steps: 8 + 2 + 6 + 2 + 2 + 1, Output: []api.Value{i32(8), i32(8)}}
	expectOutcome(t, "the callee's object", run(t, text, plenty()), want)
	own := strings.Replace(text, "tailcall read ( 2 )", "tailcall read ( 1 )", 1)
	expectOutcome(t, "the object of a frame that tail calls", run(t, own, plenty()), want)
	kept := strings.Replace(text, "tailcall read ( 2 )", "0 = call i32 ( 1 ) read\nreturn ( 0 )", 1)
	expectOutcome(t, "the object of a caller", run(t, kept, plenty()), api.Outcome{Kind: api.Returned, Result: i32(8), Steps: want.Steps + 2, Output: want.Output})
}

// P18.2: objects are new each time, and different from all others.
func TestStackObjectsAreNew(t *testing.T) {
	text := `func f ( 0 ) void
regs ptr ptr i64 bool
block 0 ( )
1 = alloca ptr ( ) i64 2
2 = load i64 ( 1 )
output ( 2 )
2 = const i64 ( ) 1
store ( 1 2 )
3 = eq bool ( 0 1 )
output ( 3 )
jump 1 ( 1 )
block 1 ( 0 )
2 = load i64 ( 0 )
output ( 2 )
1 = alloca ptr ( ) i64 1
2 = load i64 ( 1 )
output ( 2 )
3 = ne bool ( 0 1 )
branch 3 2 ( ) 1 ( 1 )
block 2 ( )
return ( )
`
	m := module(t, "global g i8 1\n"+text)
	o := interp.Run(m, 0, api.Input{Args: []api.Value{at(0, num(0))}}, plenty())
	if want := "i64 poison; bool 0; i64 1; i64 poison"; o.Kind != api.Returned || listed(o.Output) != want {
		t.Errorf("%s", shown(o))
	}
}

package refine_test

import (
	"testing"

	"burnish/api"
	"burnish/interp"
	"burnish/parser"
	"burnish/value"
)

var (
	poison  = api.Lane{Poison: true}
	unknown = api.Lane{Unknown: true}
)

// of returns the value of a type with the given lanes.
func of(t api.Type, lanes ...api.Lane) api.Value {
	v := api.Value{Type: t}
	copy(v.Lanes[:], lanes)
	return v
}

func i32(n int64) api.Value {
	return value.Int(api.I32, n)
}

// someValues returns valid values of all types, and values that are not valid.
func someValues() []api.Value {
	all := []api.Value{
		{}, {Type: 99}, {Object: 1}, of(api.I32, api.Lane{N: 1 << 31}), of(api.I32, api.Lane{Poison: true, Unknown: true}),
		of(api.V2, poison, unknown), of(api.V2, api.Lane{N: 5}, unknown), of(api.V2, poison, api.Lane{N: 5}), of(api.V2, poison, api.Lane{N: 6}),
		value.Pointer(-1, 0), value.Pointer(-2, 0), value.Pointer(0, 0), value.Pointer(1, 0), value.Pointer(1, 5), {Type: api.Ptr, Object: 1, Lanes: [4]api.Lane{unknown}},
	}
	for _, t := range []api.Type{api.Bool, api.I8, api.I32, api.I64, api.V2, api.V4} {
		all = append(all, value.Int(t, 0), value.Int(t, 1), of(t, unknown), value.Poison(t))
	}
	return append(all, value.Poison(api.Ptr))
}

// The functions that are run: with freeze and poison, divisions, branches, traps and outputs of all kinds.
const runText = `global g i32 2 = 7
global h ptr 2
func mixed ( 0 1 ) i32
regs i32 ptr i32 ptr ptr
block 0 ( )
2 = freeze i32 ( 0 )
output ( 2 )
3 = global ptr ( ) g
store ( 3 2 )
3 = global ptr ( ) h
store ( 3 1 )
4 = alloca ptr ( ) i8 1
output ( 4 )
return ( 0 )
func divide ( 0 1 ) i32
regs i32 ptr i32
block 0 ( )
output ( 0 )
2 = const i32 ( ) 6
2 = sdiv i32 ( 2 0 )
return ( 2 )
func choose ( 0 1 ) ptr
regs i32 ptr i32 ptr
block 0 ( )
2 = freeze i32 ( 0 )
switch 2 ( 0 1 ) 1 ( ) 2 ( ) 3 ( )
block 1 ( )
3 = global ptr ( ) g
return ( 3 )
block 2 ( )
output ( 1 )
trap 16
block 3 ( )
output ( 2 )
trap 17
func quiet ( 0 1 ) void
regs i32 ptr
block 0 ( )
store ( 1 0 )
output ( 0 )
return ( )
func lanes ( 0 1 ) v2
regs i32 ptr v2 v2
block 0 ( )
2 = pack v2 ( 0 0 )
3 = freeze v2 ( 2 )
output ( 3 )
2 = add v2 ( 2 3 )
return ( 2 )
func forever ( 0 1 ) void
regs i32 ptr
block 0 ( )
output ( 0 )
jump 1 ( )
block 1 ( )
output ( 1 )
jump 1 ( )
`

func runModule(t *testing.T) api.Module {
	t.Helper()
	m, offset, err := parser.Module(runText)
	if err != api.OK {
		t.Fatalf("%v at %q", err, runText[offset:])
	}
	return m
}

// runInputs returns inputs for each of the functions.
func runInputs() []api.Input {
	var all []api.Input
	for _, n := range []api.Value{i32(0), i32(1), i32(5), value.Poison(api.I32)} {
		for _, p := range []api.Value{value.Pointer(0, 0), value.Pointer(1, 1), value.Poison(api.Ptr)} {
			all = append(all, api.Input{Args: []api.Value{n, p}})
		}
	}
	all = append(all, api.Input{Args: all[0].Args, Cells: [][]api.Value{{value.Poison(api.I32), i32(2)}}})
	return append(all, api.Input{Args: all[1].Args, Cells: [][]api.Value{nil, {value.Pointer(1, -3)}}})
}

// runLimits returns limits that choose differently; the last ones leave the choice open.
func runLimits() []api.Limits {
	lim := api.Limits{Steps: 40, Frames: 1, Objects: 1}
	var all []api.Limits
	for _, lim.Choice = range []int64{0, 1, 5} {
		all = append(all, lim)
	}
	lim.Symbolic = true
	return append(all, lim)
}

// runOutcomes returns the outcomes of all functions with all inputs and limits.
func runOutcomes(t *testing.T) []api.Outcome {
	m := runModule(t)
	var all []api.Outcome
	for fn := range m.Funcs {
		for _, in := range runInputs() {
			for _, lim := range runLimits() {
				all = append(all, interp.Run(m, fn, in, lim))
			}
		}
	}
	return all
}

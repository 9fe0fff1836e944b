package interp_test

import (
	"math"
	"reflect"
	"testing"

	"burnish/api"
	"burnish/interp"
	"burnish/verify"
)

const inputText = `global n i32 2 = 7
global p ptr 2
global r i8 1 readonly
func all ( 6 0 1 2 3 4 ) i32
regs bool i8 i32 i64 ptr v2 v4
block 0 ( )
return ( 2 )
func none ( ) void
regs i32
block 0 ( )
return ( )
`

// allArgs returns arguments for function all.
func allArgs() []api.Value {
	return []api.Value{of(api.V4, num(1), poison, num(math.MinInt32), num(4)), of(api.Bool, num(1)), of(api.I8, num(-128)), i32(5), of(api.I64, poison), at(1, num(-9))}
}

// P18.1, and P18.2 and P18.3 for an input that is not valid
func expectValid(t *testing.T, why string, m api.Module, fn int, in api.Input, want bool) {
	t.Helper()
	if got := interp.ValidInput(m, fn, in); got != want {
		t.Errorf("%s: ValidInput %v", why, got)
	}
	o, blocks := interp.Run(m, fn, in, plenty()), interp.Trace(m, fn, in, plenty())
	if ran := o.Kind == api.Returned && len(blocks) == 1 && blocks[0] == 0; ran != want || !want && (!reflect.DeepEqual(o, api.Outcome{}) || blocks != nil) {
		t.Errorf("%s: %s, blocks %v", why, shown(o), blocks)
	}
}

// P18.1
func TestValidArguments(t *testing.T) {
	m := module(t, inputText)
	expectValid(t, "all types", m, 0, api.Input{Args: allArgs()}, true)
	expectValid(t, "no arguments", m, 1, api.Input{}, true)
	expectValid(t, "no arguments for six parameters", m, 0, api.Input{}, false)
	expectValid(t, "one too few", m, 0, api.Input{Args: allArgs()[:5]}, false)
	expectValid(t, "one too many", m, 0, api.Input{Args: append(allArgs(), i32(1))}, false)
	expectValid(t, "one for none", m, 1, api.Input{Args: []api.Value{i32(1)}}, false)
	for _, fn := range []int{math.MinInt, -1, 2, math.MaxInt} {
		expectValid(t, "no such function", m, fn, api.Input{}, false)
	}
	for i := range allArgs() {
		for j, other := range allArgs() {
			args := allArgs()
			args[i] = other
			expectValid(t, "the type of another parameter", m, 0, api.Input{Args: args}, i == j)
		}
	}
}

// The values of each type that may and that may not be known ahead of a run
func inputValues() (good, bad []api.Value) {
	both := api.Lane{Poison: true, Unknown: true}
	good = []api.Value{
		of(api.V4), of(api.V4, poison, poison, poison, poison), of(api.V4, num(math.MaxInt32)),
		of(api.Bool), of(api.Bool, poison), of(api.I8, num(127)), of(api.I32, num(math.MinInt32)), of(api.I64, num(math.MaxInt64)),
		at(0, num(math.MinInt64)), at(2, num(math.MaxInt64)), at(0, poison),
	}
	bad = []api.Value{
		of(api.V4, unknown), of(api.V4, num(0), poison, num(0), unknown), of(api.V4, num(1<<31)), of(api.V4, num(0), both),
		of(api.Bool, unknown), of(api.Bool, num(2)), of(api.I8, num(128)), of(api.I8, unknown), of(api.I32, num(1<<31)), of(api.I32, unknown), of(api.I64, unknown), of(api.I64, both),
		of(api.I32, num(1), num(1)), {Type: api.I32, Object: 1},
		at(3, num(0)), at(-1, num(0)), at(-2, num(0)), at(math.MaxInt, num(0)), at(0, unknown), at(1, poison), at(1, both),
	}
	return good, bad
}

// P18.1
func TestValidValues(t *testing.T) {
	m := module(t, inputText)
	good, bad := inputValues()
	for i, v := range append(good, bad...) {
		for j, arg := range allArgs() {
			if arg.Type == v.Type {
				args := allArgs()
				args[j] = v
				expectValid(t, "an argument", m, 0, api.Input{Args: args}, i < len(good))
			}
		}
		for j, g := range m.Globals {
			if g.Elem == v.Type {
				cells := make([][]api.Value, 3)
				cells[j] = []api.Value{v}
				expectValid(t, "a cell", m, 1, api.Input{Cells: cells}, i < len(good))
			}
		}
	}
}

// P18.1
func TestValidCells(t *testing.T) {
	m := module(t, inputText)
	one := of(api.I8, num(1))
	for _, x := range []struct {
		why   string
		cells [][]api.Value
		want  bool
	}{
		{"all cells", [][]api.Value{{i32(1), i32(2)}, {at(1, num(0)), at(0, poison)}, {one}}, true},
		{"some cells", [][]api.Value{nil, {at(2, num(0))}}, true},
		{"empty lists", [][]api.Value{{}, nil, {}}, true},
		{"too many lists", [][]api.Value{nil, nil, nil, nil}, false},
		{"too many cells", [][]api.Value{{i32(1), i32(2), i32(3)}}, false},
		{"too many cells", [][]api.Value{nil, nil, {one, one}}, false},
		{"another type", [][]api.Value{{i32(1), one}}, false},
		{"a pointer", [][]api.Value{{at(0, num(0))}}, false},
		{"a vector", [][]api.Value{{of(api.V2, num(1), num(2))}}, false},
		{"the zero Value", [][]api.Value{nil, nil, {{}}}, false},
	} {
		expectValid(t, x.why, m, 1, api.Input{Cells: x.cells}, x.want)
	}
}

// P18.1
func TestValidModules(t *testing.T) {
	m := module(t, inputText)
	m.Funcs[0].Blocks[0].Term.Args[0] = 0
	expectValid(t, "an error in another function", m, 1, api.Input{}, false)
	expectValid(t, "nothing", api.Module{}, 0, api.Input{}, false)
	m = api.Module{Funcs: module(t, inputText).Funcs}
	args := allArgs()
	expectValid(t, "a pointer to no global", m, 0, api.Input{Args: args}, false)
	args[5] = at(0, num(0))
	expectValid(t, "a pointer to no global", m, 0, api.Input{Args: args}, false)
	args[5] = at(0, poison)
	expectValid(t, "a poison pointer", m, 0, api.Input{Args: args}, true)
}

// P18.2: cells that are given come before Init, in what is read and in the outcome.
func TestInputCells(t *testing.T) {
	m := module(t, inputText)
	in := api.Input{Cells: [][]api.Value{{i32(5)}, {at(1, num(4))}}}
	want := api.Outcome{Kind: api.Returned, Steps: 1, Cells: [][]api.Value{{i32(5), of(api.I32, poison)}, {at(1, num(4)), at(0, poison)}, {of(api.I8, poison)}}}
	expectOutcome(t, "given", interp.Run(m, 1, in, plenty()), want)
	in.Cells[0] = []api.Value{of(api.I32, poison), i32(3)}
	want.Cells[0] = in.Cells[0]
	expectOutcome(t, "poison given", interp.Run(m, 1, in, plenty()), want)
	want.Cells = [][]api.Value{{i32(7), of(api.I32, poison)}, {at(0, poison), at(0, poison)}, {of(api.I8, poison)}}
	expectOutcome(t, "nothing given", interp.Run(m, 1, api.Input{}, plenty()), want)
}

// DOC.md, Rules 4 and 5
func TestArgumentsStayAsTheyAre(t *testing.T) {
	text := "global n i32 2 = 7\nfunc f ( 0 1 ) i32\nregs ptr i32\nblock 0 ( )\nstore ( 0 1 )\noutput ( 1 )\n1 = load i32 ( 0 )\nreturn ( 1 )\n"
	m := module(t, text)
	in := api.Input{Args: []api.Value{at(0, num(0)), i32(3)}, Cells: [][]api.Value{{i32(1), i32(2)}}}
	first := interp.Run(m, 0, in, plenty())
	if !verify.Equal(m, module(t, text)) || in.Args[1] != i32(3) || in.Cells[0][0] != i32(1) {
		t.Error("the run has changed its arguments")
	}
	first.Output[0], first.Cells[0][0] = i32(99), i32(99)
	want := api.Outcome{Kind: api.Returned, Steps: 4, Result: i32(3), Output: []api.Value{i32(3)}, Cells: [][]api.Value{{i32(3), i32(2)}}}
	expectOutcome(t, "again", interp.Run(m, 0, in, plenty()), want)
}

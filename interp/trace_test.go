package interp_test

import (
	"slices"
	"testing"

	"burnish/api"
	"burnish/interp"
	"burnish/value"
)

func expectTrace(t *testing.T, text string, lim api.Limits, want []int, args ...api.Value) {
	t.Helper()
	got := interp.Trace(module(t, text), 0, api.Input{Args: args}, lim)
	if !slices.Equal(got, want) || want == nil && got != nil {
		t.Errorf("%v, want %v\n%s", got, want, text)
	}
}

const loopText = "func f ( 0 ) void\nregs i32 i32 bool\nblock 0 ( )\n1 = const i32 ( ) 1\njump 2 ( )\nblock 1 ( 0 )\njump 2 ( )\nblock 2 ( )\n2 = slt bool ( 0 1 )\nbranch 2 3 ( ) 4 ( )\nblock 3 ( )\nreturn ( )\nblock 4 ( )\n0 = sub i32 ( 0 1 )\njump 1 ( 0 )\n"

// P18.3
func TestTrace(t *testing.T) {
	expectTrace(t, loopText, plenty(), []int{0, 2, 3}, i32(0))
	expectTrace(t, loopText, plenty(), []int{0, 2, 4, 1, 2, 4, 1, 2, 3}, i32(2))
	expectTrace(t, loopText, plenty(), []int{0, 2}, of(api.I32, poison))
	expectTrace(t, quotientText, plenty(), []int{0}, i32(1), i32(0))
	expectTrace(t, "func f ( ) void\nregs\nblock 0 ( )\njump 1 ( )\nblock 1 ( )\ntrap 16\n", plenty(), []int{0, 1})
}

// P18.3: of blocks that are entered, not of steps
func TestTraceWithLimits(t *testing.T) {
	for steps, want := range [][]int{{0}, {0}, {0, 2}, {0, 2}, {0, 2, 4}, {0, 2, 4}, {0, 2, 4, 1}, {0, 2, 4, 1, 2}} {
		expectTrace(t, loopText, limits(steps, 1, 0), want, i32(2))
	}
	expectTrace(t, loopText, limits(-1, 1, 0), []int{0}, i32(2))
	expectTrace(t, loopText, limits(100, 0, 0), nil, i32(2))
	expectTrace(t, loopText, limits(100, -1, 0), nil, i32(2))
	expectTrace(t, loopText, plenty(), nil)
	expectTrace(t, loopText, plenty(), nil, value.Int(api.I64, 2))
	m := module(t, loopText)
	if interp.Trace(m, 1, api.Input{}, plenty()) != nil || interp.Trace(m, -1, api.Input{}, plenty()) != nil {
		t.Error("blocks of no function")
	}
	m.Funcs[0].Blocks = nil
	if interp.Trace(m, 0, api.Input{Args: []api.Value{i32(2)}}, plenty()) != nil {
		t.Error("blocks of a module that is not valid")
	}
}

// P18.3: the blocks of other frames are left out, even those of the same function.
func TestTraceOfTheFirstFrame(t *testing.T) {
	expectTrace(t, nesting, plenty(), []int{0, 2}, i32(5))
	expectTrace(t, allocating, plenty(), []int{0, 1, 3, 1, 3, 1, 2}, i32(2))
	expectTrace(t, tailText, plenty(), []int{0}, value.Int(api.I64, 3))
	again := "func f ( 0 ) void\nregs bool\nblock 0 ( )\nbranch 0 1 ( ) 2 ( )\nblock 1 ( )\n0 = poison bool ( )\n0 = freeze bool ( 0 )\ntailcall f ( 0 )\nblock 2 ( )\nreturn ( )\n"
	expectTrace(t, again, plenty(), []int{0, 1}, of(api.Bool, num(1)))
	expectTrace(t, again, plenty(), []int{0, 2}, of(api.Bool))
}

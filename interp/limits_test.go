package interp_test

import (
	"math"
	"slices"
	"testing"

	"burnish/api"
	"burnish/interp"
	"burnish/value"
)

func limits(steps, frames, objects int) api.Limits {
	return api.Limits{Steps: steps, Frames: frames, Objects: objects}
}

// P18.2: what a run that is Exhausted has counted, and has put out
func TestStepsLimit(t *testing.T) {
	text := "func f ( 0 ) void\nregs i32\nblock 0 ( )\noutput ( 0 )\njump 1 ( )\nblock 1 ( )\noutput ( 0 )\ncall ( 0 ) g\nreturn ( )\nfunc g ( 0 ) void\nregs i32\nblock 0 ( )\noutput ( 0 )\nreturn ( )\n"
	for steps, outputs := range []int{0, 1, 1, 2, 2, 3, 3} {
		want := api.Outcome{Kind: api.Exhausted, Steps: steps, Output: slices.Repeat([]api.Value{i32(4)}, outputs)}
		expectOutcome(t, "exhausted", run(t, text, limits(steps, 2, 0), i32(4)), want)
	}
	for _, steps := range []int{7, 8, api.MaxSteps, math.MaxInt} {
		expectOutcome(t, "returned", run(t, text, limits(steps, 2, 0), i32(4)), api.Outcome{Kind: api.Returned, Steps: 7, Output: []api.Value{i32(4), i32(4), i32(4)}})
	}
	for _, steps := range []int{-1, math.MinInt} {
		expectOutcome(t, "below 0", run(t, text, limits(steps, 2, 0), i32(4)), api.Outcome{Kind: api.Exhausted})
	}
	expectOutcome(t, "a trap", run(t, "func f ( ) void\nregs\nblock 0 ( )\ntrap 16\n", limits(0, 1, 0)), api.Outcome{Kind: api.Exhausted})
}

// P18.2, P18.5
func TestMaxSteps(t *testing.T) {
	text := "func f ( 0 1 ) i64\nregs i64 i64 bool\nblock 0 ( )\njump 1 ( 0 )\nblock 1 ( 0 )\n0 = sub i64 ( 0 1 )\n2 = slt bool ( 0 1 )\nbranch 2 2 ( ) 1 ( 0 )\nblock 2 ( )\nreturn ( 0 )\n"
	count := func(n int64) []api.Value { return []api.Value{value.Int(api.I64, n), value.Int(api.I64, 1)} }
	for _, lim := range []api.Limits{limits(api.MaxSteps, 1, 0), limits(api.MaxSteps+1, 1, 0), limits(math.MaxInt, 1, 0)} {
		most := int64((api.MaxSteps - 2) / 3)
		o := run(t, text, lim, count(most)...)
		if o.Kind != api.Returned || o.Steps != 2+3*int(most) {
			t.Errorf("%s, %d steps", value.Format(o.Result), o.Steps)
		}
		if o = run(t, text, lim, count(most+1)...); o.Kind != api.Exhausted || o.Steps != api.MaxSteps || o.Result != (api.Value{}) {
			t.Errorf("kind %d, %d steps", o.Kind, o.Steps)
		}
	}
}

// nesting is a function that has n + 1 frames at once.
const nesting = "func f ( 0 ) void\nregs i32 bool i32\nblock 0 ( )\noutput ( 0 )\n2 = const i32 ( ) 0\n1 = eq bool ( 0 2 )\nbranch 1 1 ( ) 2 ( )\nblock 1 ( )\nreturn ( )\nblock 2 ( )\n2 = const i32 ( ) -1\n2 = add i32 ( 0 2 )\ncall ( 2 ) f\nreturn ( )\n"

// P18.2
func TestFramesLimit(t *testing.T) {
	for _, x := range []struct{ limit, frames int }{{1, 1}, {2, 2}, {7, 7}, {api.MaxFrames, api.MaxFrames}, {api.MaxFrames + 1, api.MaxFrames}, {math.MaxInt, api.MaxFrames}} {
		lim := limits(10000, x.limit, 0)
		o := run(t, nesting, lim, i32(int64(x.frames-1)))
		if o.Kind != api.Returned || len(o.Output) != x.frames || o.Steps != 8*x.frames-3 {
			t.Errorf("limit %d: kind %d, %d outputs, %d steps", x.limit, o.Kind, len(o.Output), o.Steps)
		}
		o = run(t, nesting, lim, i32(int64(x.frames)))
		if o.Kind != api.Exhausted || len(o.Output) != x.frames || o.Steps != 7*x.frames {
			t.Errorf("limit %d: kind %d, %d outputs, %d steps", x.limit, o.Kind, len(o.Output), o.Steps)
		}
	}
	for _, none := range []int{0, -1, math.MinInt} {
		expectOutcome(t, "no frames", run(t, nesting, limits(100, none, 0), i32(0)), api.Outcome{Kind: api.Exhausted})
	}
}

// P18.2: frames that have ended do not count.
func TestFramesOneAfterTheOther(t *testing.T) {
	text := "func f ( ) void\nregs\nblock 0 ( )\njump 1 ( )\nblock 1 ( )\ncall ( ) g\njump 1 ( )\nfunc g ( ) void\nregs\nblock 0 ( )\nreturn ( )\n"
	expectOutcome(t, "calls", run(t, text, limits(5000, 2, 0)), api.Outcome{Kind: api.Exhausted, Steps: 5000})
}

// allocating returns a function that allocates n objects, in frames that end.
const allocating = "func f ( 0 ) void\nregs i32 bool i32\nblock 0 ( )\njump 1 ( 0 )\nblock 1 ( 0 )\n2 = const i32 ( ) 0\n1 = eq bool ( 0 2 )\nbranch 1 2 ( ) 3 ( )\nblock 2 ( )\nreturn ( )\nblock 3 ( )\n2 = const i32 ( ) -1\n2 = add i32 ( 0 2 )\ncall ( ) g\njump 1 ( 2 )\nfunc g ( ) void\nregs ptr\nblock 0 ( )\n0 = alloca ptr ( ) i8 256\noutput ( 0 )\nreturn ( )\n"

// P18.2: objects that have ended count.
func TestObjectsLimit(t *testing.T) {
	for _, x := range []struct{ limit, objects int }{{0, 0}, {-1, 0}, {math.MinInt, 0}, {1, 1}, {5, 5}, {api.MaxObjects, api.MaxObjects}, {api.MaxObjects + 1, api.MaxObjects}, {math.MaxInt, api.MaxObjects}} {
		lim := limits(100000, 2, x.limit)
		pointers := slices.Repeat([]api.Value{at(-1, num(0))}, x.objects)
		want := api.Outcome{Kind: api.Returned, Output: pointers, Steps: 5 + 10*x.objects}
		expectOutcome(t, "returned", run(t, allocating, lim, i32(int64(x.objects))), want)
		want.Kind, want.Steps = api.Exhausted, 1+10*x.objects+7
		expectOutcome(t, "exhausted", run(t, allocating, lim, i32(int64(x.objects+1))), want)
	}
}

// P18.4, P18.5
func TestHigherLimits(t *testing.T) {
	for _, x := range []struct {
		text string
		args []api.Value
	}{
		{quotientText, []api.Value{i32(7), i32(0)}},
		{nesting, []api.Value{i32(5)}},
		{allocating, []api.Value{i32(3)}},
		{tailText, []api.Value{value.Int(api.I64, 3)}},
		{accessText, []api.Value{at(0, num(0)), of(api.I64, num(1))}},
	} {
		m := module(t, x.text)
		in := api.Input{Args: x.args}
		last := interp.Run(m, 0, in, plenty())
		if last.Kind == api.Exhausted {
			t.Fatal(shown(last))
		}
		for steps := range last.Steps + 3 {
			for frames := range 8 {
				for objects := range 5 {
					o := interp.Run(m, 0, in, limits(steps, frames, objects))
					if o.Kind != api.Exhausted && !sameOutcome(o, last) || o.Steps > steps || o.Kind == api.Exhausted && !isPrefix(o.Output, last.Output) {
						t.Fatalf("%d steps, %d frames, %d objects: %s, but %s", steps, frames, objects, shown(o), shown(last))
					}
				}
			}
		}
	}
}

func isPrefix(a, b []api.Value) bool {
	return len(a) <= len(b) && slices.Equal(a, b[:len(a)])
}

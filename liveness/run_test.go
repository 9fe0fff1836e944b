package liveness_test

import (
	"slices"
	"testing"

	"burnish/api"
	"burnish/interp"
	"burnish/liveness"
	"burnish/refine"
	"burnish/value"
	"burnish/verify"
)

// changed returns the sample's module with an instruction before a position, which is not one of parameters, that changes a register.
func changed(t *testing.T, at api.Pos, register int) api.Module {
	m := sampleModule(t)
	b := &m.Funcs[0].Blocks[at.Block]
	in := api.Instr{Op: api.OpPoison, Type: m.Funcs[0].Regs[register], Dst: register}
	b.Instrs = slices.Insert(b.Instrs, at.Index, in)
	if d := verify.Module(m); d != (api.Diagnostic{}) {
		t.Fatalf("register %d at %v: %+v", register, at, d)
	}
	return m
}

// sampleRuns returns the outcomes of runs of the first function of a module.
func sampleRuns(m api.Module) []api.Outcome {
	var all []api.Outcome
	for _, n := range []int64{-3, 0, 4, 6, 7, 9} {
		for _, end := range []int64{-3, 0, 4, 8} {
			in := api.Input{Args: []api.Value{value.Int(api.I32, n), value.Int(api.I32, end)}}
			all = append(all, interp.Run(m, 0, in, api.Limits{Steps: 2000, Frames: 1}))
		}
	}
	return all
}

// equalOutcomes reports whether two lists of outcomes agree in all but the steps.
func equalOutcomes(a, b []api.Outcome) bool {
	return slices.EqualFunc(a, b, func(x, y api.Outcome) bool { return refine.Outcome(x, y) && refine.Outcome(y, x) })
}

// P21.3: poison in a register that is not live changes no outcome; in most live ones it changes some.
func TestChangesOfRegistersThatAreNotLive(t *testing.T) {
	f, want := sample(t), sampleRuns(sampleModule(t))
	for i, outcome := range want {
		if outcome.Kind != api.Returned {
			t.Errorf("run %d: %+v", i, outcome)
		}
	}
	live, dead, seen := 0, 0, 0
	for _, at := range positionsOf(f) {
		if at.Index < 0 {
			continue
		}
		for r, isLive := range liveness.Before(f, at) {
			equal := equalOutcomes(sampleRuns(changed(t, at, r)), want)
			switch {
			case isLive && !equal:
				seen++
				fallthrough
			case isLive:
				live++
			case !equal:
				t.Errorf("register %d before %v", r, at)
			default:
				dead++
			}
		}
	}
	if dead < 40 || seen < 40 {
		t.Errorf("%d registers are not live, %d are, and %d of these are seen to be", dead, live, seen)
	}
}

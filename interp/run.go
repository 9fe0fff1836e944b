package interp

import (
	"burnish/api"
	"burnish/memory"
)

// stackObject is the object number of a pointer to any stack object in an outcome.
const stackObject = -1

// A run is the execution of a function and of all that it calls.
type run struct {
	module  api.Module
	limits  api.Limits
	memory  *memory.Memory
	frames  []*frame     // the active ones, the innermost last
	rooms   [][]register // the registers of the frames, active or not, by the number of frames below them
	started int          // the frames that have started so far
	objects int          // the stack objects allocated so far
	steps   int
	kind    int // how the run has ended, or 0
	code    int
	result  api.Value
	output  []api.Value
}

// execute runs a function on a valid input. It calls enter with each block that the first frame enters.
func execute(m api.Module, fn int, in api.Input, lim api.Limits, enter func(block int)) api.Outcome {
	r := &run{module: m, limits: clamped(lim), memory: memory.New(m, in.Cells)}
	if r.limits.Frames == 0 {
		r.end(api.Exhausted)
		return r.outcome()
	}
	r.start(fn, in.Args, enter, func(result api.Value) {
		r.result = r.exposed(result)
		r.end(api.Returned)
	})
	for r.kind == 0 {
		r.advance(r.frames[len(r.frames)-1])
	}
	return r.outcome()
}

func clamped(lim api.Limits) api.Limits {
	lim.Steps = min(max(lim.Steps, 0), api.MaxSteps)
	lim.Frames = min(max(lim.Frames, 0), api.MaxFrames)
	lim.Objects = min(max(lim.Objects, 0), api.MaxObjects)
	return lim
}

// end ends the run. It returns false, like every step behind which the frame does not go on.
func (r *run) end(kind int) bool {
	r.kind = kind
	return false
}

func (r *run) trap(code int) bool {
	r.code = code
	return r.end(api.Trapped)
}

// exposed hides the object number of a pointer to a stack object.
func (r *run) exposed(v api.Value) api.Value {
	if pointsSomewhere(v) && !isGlobal(v.Object, r.module) {
		v.Object = stackObject
	}
	return v
}

// outcome tells how the run has ended, and what of it counts in that case.
func (r *run) outcome() api.Outcome {
	o := api.Outcome{Kind: r.kind, Steps: r.steps}
	switch r.kind {
	case api.Returned:
		o.Result, o.Output, o.Cells = r.result, r.output, r.memory.Globals()
	case api.Trapped:
		o.Code, o.Output = r.code, r.output
	case api.Exhausted:
		o.Output = r.output
	}
	return o
}

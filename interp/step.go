package interp

import (
	"burnish/api"
	"burnish/opcode"
	"burnish/value"
)

// What memory answers instead of 0.
const (
	memoryTrap       = 1
	memoryUndefined  = 2
	memoryUnresolved = 3
)

// What value.Eval answers instead of 0.
const (
	evalUndefined  = 1
	evalUnresolved = 2
)

// instruction executes an instruction, and reports whether the frame goes on behind it.
func (r *run) instruction(f *frame, in *api.Instr) bool {
	args := f.collect(in.Args)
	if opcode.IsPure(in.Op) {
		return r.evaluate(f, in, args)
	}
	switch in.Op {
	case api.OpFreeze:
		f.assign(in.Dst, r.freeze(args[0]))
	case api.OpAlloca:
		return r.alloca(f, in)
	case api.OpLoad:
		v, status := r.memory.Load(args[0], in.Type)
		f.assign(in.Dst, v) // if the run ends here, nobody reads it
		return r.accessed(status)
	case api.OpStore:
		return r.accessed(r.memory.Store(args[0], args[1]))
	case api.OpOutput:
		r.output = append(r.output, r.exposed(args[0]))
	case api.OpCall:
		return r.call(f, in, args)
	}
	return true
}

func (r *run) evaluate(f *frame, in *api.Instr, args []api.Value) bool {
	v, trap, status := value.Eval(*in, args)
	switch {
	case status == evalUndefined:
		return r.end(api.Undefined)
	case status == evalUnresolved:
		return r.end(api.Unresolved)
	case trap != 0:
		return r.trap(trap)
	}
	f.assign(in.Dst, v)
	return true
}

// freeze returns v with its lanes of poison replaced by the choice of the run.
func (r *run) freeze(v api.Value) api.Value {
	choice := value.Int(v.Type, r.limits.Choice)
	for i := range value.NumLanes(v.Type) {
		switch {
		case !v.Lanes[i].Poison:
		case r.limits.Symbolic:
			v.Lanes[i] = api.Lane{Unknown: true}
		default:
			v.Lanes[i] = choice.Lanes[i]
		}
	}
	return v
}

func (r *run) alloca(f *frame, in *api.Instr) bool {
	if r.objects == r.limits.Objects {
		return r.end(api.Exhausted)
	}
	r.objects++
	p, _ := r.memory.Alloca(in.Elem, int(in.Imm))
	f.assign(in.Dst, p)
	return true
}

// accessed goes on or ends the run by the status of an access to memory.
func (r *run) accessed(status int) bool {
	switch status {
	case memoryTrap:
		return r.trap(api.TrapMemory)
	case memoryUndefined:
		return r.end(api.Undefined)
	case memoryUnresolved:
		return r.end(api.Unresolved)
	}
	return true
}

func (r *run) call(caller *frame, in *api.Instr, args []api.Value) bool {
	if len(r.frames) == r.limits.Frames {
		return r.end(api.Exhausted)
	}
	r.start(in.Sym, args, ignore, func(result api.Value) {
		if in.Dst >= 0 {
			caller.assign(in.Dst, result)
		}
	})
	return false
}

// terminator executes the end of a block, and reports whether the frame has entered another one.
func (r *run) terminator(f *frame, t *api.Terminator) bool {
	args := f.collect(t.Args)
	switch t.Kind {
	case api.Branch, api.Switch:
		switch lane := args[0].Lanes[0]; {
		case lane.Poison:
			return r.end(api.Undefined)
		case lane.Unknown:
			return r.end(api.Unresolved)
		default:
			f.follow(t.Succs[successor(t, lane.N)])
		}
	case api.Jump:
		f.follow(t.Succs[0])
	case api.Trap:
		return r.trap(int(t.Cases[0]))
	case api.Return:
		r.leave(f)
		result := api.Value{}
		if len(args) > 0 {
			result = args[0]
		}
		f.deliver(result)
		return false
	case api.TailCall:
		r.leave(f)
		r.start(t.Sym, args, ignore, f.deliver)
		return false
	}
	return true
}

// successor returns the index of the edge that a branch or a switch takes for n.
func successor(t *api.Terminator, n int64) int {
	cases := t.Cases
	if t.Kind == api.Branch {
		cases = []int64{1}
	}
	for i, c := range cases {
		if c == n {
			return i
		}
	}
	return len(cases)
}

// follow assigns the arguments of an edge, all read before, to the parameters of its target block.
func (f *frame) follow(e api.Edge) {
	f.move(e.Block, f.function.Blocks[e.Block].Params, f.collect(e.Args))
}

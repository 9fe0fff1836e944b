package interp_test

import (
	"slices"

	"burnish/api"
	"burnish/memory"
	"burnish/value"
)

// A machine is a second interpreter, whose frames are calls of a function. A run ends by a panic with its outcome.
type machine struct {
	api.Module
	lim            api.Limits
	mem            *memory.Memory
	objects, steps int
	output         []api.Value
	blocks         []int
}

// reference returns the outcome of a run on a valid input, within limits that are in their bounds, and the blocks of its first frame.
func reference(m api.Module, fn int, in api.Input, lim api.Limits) (o api.Outcome, blocks []int) {
	x := &machine{Module: m, lim: lim, mem: memory.New(m, in.Cells)}
	defer func() {
		o, blocks = recover().(api.Outcome), x.blocks
		o.Steps = x.steps
		if o.Kind != api.Undefined && o.Kind != api.Unresolved {
			o.Output = x.output
		}
	}()
	result := x.call(fn, in.Args, 1)
	panic(api.Outcome{Kind: api.Returned, Result: x.hide(result), Cells: x.mem.Globals()})
}

func (x *machine) hide(v api.Value) api.Value {
	if v.Type == api.Ptr && v.Lanes[0] != poison && v.Object >= len(x.Globals) {
		v.Object = -1
	}
	return v
}

func endIf(condition bool, kind int) {
	if condition {
		panic(api.Outcome{Kind: kind})
	}
}

// call runs a function, and those that it tail calls, in a frame that is the given one of the active ones.
func (x *machine) call(fn int, args []api.Value, active int) api.Value {
	endIf(active > x.lim.Frames, api.Exhausted)
	for first := active == 1; ; first = false {
		mark := x.mem.Mark()
		sym, values := x.body(x.Funcs[fn], args, active, first)
		x.mem.Release(mark)
		if sym < 0 {
			return append(values, api.Value{})[0]
		}
		fn, args = sym, values
	}
}

// body runs a function up to its end. It returns the values that it returns and -1, or those of a tail call and the callee.
func (x *machine) body(f api.Func, args []api.Value, active int, first bool) (sym int, values []api.Value) {
	regs := map[int]api.Value{}
	get := func(list []int) []api.Value {
		var all []api.Value
		for _, i := range list {
			v, ok := regs[i]
			if !ok {
				v = value.Poison(f.Regs[i])
			}
			all = append(all, v)
		}
		return all
	}
	set := func(list []int, values []api.Value) {
		for i, reg := range list {
			regs[reg] = values[i]
		}
	}
	set(f.Params, args)
	for next := 0; ; {
		if first {
			x.blocks = append(x.blocks, next)
		}
		for _, in := range f.Blocks[next].Instrs {
			x.step()
			if v := x.instr(in, get(in.Args), active); in.Dst >= 0 {
				regs[in.Dst] = v
			}
		}
		x.step()
		t := f.Blocks[next].Term
		switch t.Kind {
		case api.Return:
			return -1, get(t.Args)
		case api.TailCall:
			return t.Sym, get(t.Args)
		}
		e := t.Succs[x.edge(t, get(t.Args))]
		set(f.Blocks[e.Block].Params, get(e.Args))
		next = e.Block
	}
}

func (x *machine) step() {
	endIf(x.steps >= x.lim.Steps, api.Exhausted)
	x.steps++
}

// edge returns the successor that a terminator takes, or ends the run.
func (x *machine) edge(t api.Terminator, args []api.Value) int {
	if t.Kind == api.Trap {
		panic(api.Outcome{Kind: api.Trapped, Code: int(t.Cases[0])})
	}
	if t.Kind == api.Jump {
		return 0
	}
	lane := args[0].Lanes[0]
	endIf(lane.Poison, api.Undefined)
	endIf(lane.Unknown, api.Unresolved)
	if t.Kind == api.Branch {
		return int(1 - lane.N)
	}
	if i := slices.Index(t.Cases, lane.N); i >= 0 {
		return i
	}
	return len(t.Cases)
}

func (x *machine) access(status int) {
	if status == 1 {
		panic(api.Outcome{Kind: api.Trapped, Code: api.TrapMemory})
	}
	endIf(status == 2, api.Undefined)
	endIf(status == 3, api.Unresolved)
}

// instr returns the result of an instruction, if it has one, or ends the run.
func (x *machine) instr(in api.Instr, args []api.Value, active int) (v api.Value) {
	status := 0
	switch in.Op {
	case api.OpFreeze:
		v = args[0]
		for i, lane := range v.Lanes {
			if lane.Poison && x.lim.Symbolic {
				v.Lanes[i] = unknown
			} else if lane.Poison {
				v.Lanes[i] = value.Int(v.Type, x.lim.Choice).Lanes[0]
			}
		}
	case api.OpAlloca:
		x.objects++
		endIf(x.objects > x.lim.Objects, api.Exhausted)
		v, _ = x.mem.Alloca(in.Elem, int(in.Imm))
	case api.OpLoad:
		v, status = x.mem.Load(args[0], in.Type)
		x.access(status)
	case api.OpStore:
		x.access(x.mem.Store(args[0], args[1]))
	case api.OpOutput:
		x.output = append(x.output, x.hide(args[0]))
	case api.OpCall:
		v = x.call(in.Sym, args, active+1)
	default:
		trap := 0
		v, trap, status = value.Eval(in, args)
		endIf(status == 1, api.Undefined)
		endIf(status == 2, api.Unresolved)
		if trap != 0 {
			panic(api.Outcome{Kind: api.Trapped, Code: trap})
		}
	}
	return v
}

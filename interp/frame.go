package interp

import (
	"burnish/api"
	"burnish/value"
)

// A frame is a function that has started and not ended yet.
type frame struct {
	number      int // how many frames had started with this one
	function    *api.Func
	registers   []register
	operands    []api.Value // what collect returned last
	block, next int         // where the next step is
	mark        int         // the first stack object that may be the frame's
	enter       func(block int)
	deliver     func(result api.Value) // hands the result, if there is one, to whom it belongs
}

// A register holds what the frame with the given number has assigned to it. For later
// frames, which use the same room, it is poison: so that a frame with many registers
// starts as fast as one with few.
type register struct {
	value api.Value
	frame int
}

// ignore is what becomes of the blocks that other frames than the first enter.
func ignore(int) {}

// start puts a new frame on top of the active ones.
func (r *run) start(fn int, args []api.Value, enter func(block int), deliver func(result api.Value)) {
	r.started++
	function := &r.module.Funcs[fn]
	f := &frame{
		number:    r.started,
		function:  function,
		registers: r.room(len(function.Regs)),
		mark:      r.memory.Mark(),
		enter:     enter,
		deliver:   deliver,
	}
	r.frames = append(r.frames, f)
	f.move(0, function.Params, args)
}

// room returns room for the registers of the next frame.
func (r *run) room(size int) []register {
	depth := len(r.frames)
	if depth == len(r.rooms) {
		r.rooms = append(r.rooms, nil)
	}
	if len(r.rooms[depth]) < size {
		r.rooms[depth] = make([]register, size)
	}
	return r.rooms[depth][:size]
}

// leave ends the innermost frame.
func (r *run) leave(f *frame) {
	r.memory.Release(f.mark)
	r.frames = r.frames[:len(r.frames)-1]
}

// advance takes the innermost frame forward, until it calls or ends or the run ends.
func (r *run) advance(f *frame) {
steps:
	for {
		b := &f.function.Blocks[f.block]
		for f.next < len(b.Instrs) {
			in := &b.Instrs[f.next]
			f.next++
			if !r.count() || !r.instruction(f, in) {
				break steps
			}
		}
		if !r.count() || !r.terminator(f, &b.Term) {
			break steps
		}
	}
}

// count counts a step that is to be executed, and reports whether it may be.
func (r *run) count() bool {
	if r.steps == r.limits.Steps {
		return r.end(api.Exhausted)
	}
	r.steps++
	return true
}

func (f *frame) read(index int) api.Value {
	if f.registers[index].frame != f.number {
		return value.Poison(f.function.Regs[index])
	}
	return f.registers[index].value
}

func (f *frame) assign(index int, v api.Value) {
	f.registers[index] = register{v, f.number}
}

// collect returns the values of some registers, up to its next call.
func (f *frame) collect(registers []int) []api.Value {
	f.operands = f.operands[:0]
	for _, index := range registers {
		f.operands = append(f.operands, f.read(index))
	}
	return f.operands
}

// move enters a block with values for its parameters.
func (f *frame) move(block int, params []int, values []api.Value) {
	f.block, f.next = block, 0
	for i, index := range params {
		f.assign(index, values[i])
	}
	f.enter(block)
}

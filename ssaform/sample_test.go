package ssaform_test

import (
	"math/rand"
	"slices"
	"testing"

	"burnish/api"
	"burnish/cfg"
	"burnish/parser"
)

// A module whose function is in SSA form. Its blocks 2 and 5 cannot be reached, and
// register 9 is in none of its positions.
const sampleText = `global g i32 2 = 7
func f ( 8 3 ) i32
regs bool i32 i64 i32 ptr i32 i32 i32 i32 v2 i8 i32
block 0 ( )
4 = global ptr ( ) g
jump 4 ( 8 3 )
block 1 ( 1 )
store ( 4 1 )
return ( 1 )
block 2 ( )
10 = const i8 ( ) 1
jump 4 ( 11 11 )
block 3 ( )
11 = add i32 ( 6 5 )
output ( 11 )
jump 4 ( 11 3 )
block 4 ( 6 7 )
5 = load i32 ( 4 )
0 = slt bool ( 6 7 )
branch 0 3 ( ) 1 ( 6 )
block 5 ( )
2 = const i64 ( ) 5
switch 2 ( 5 ) 5 ( ) 2 ( )
`

// What Compact makes of the sample's function.
const compactText = `global g i32 2 = 7
func f ( 0 1 ) i32
regs i32 i32 ptr i32 i32 i32 i32 i32 bool
block 0 ( )
2 = global ptr ( ) g
jump 3 ( 0 1 )
block 1 ( 3 )
store ( 2 3 )
return ( 3 )
block 2 ( )
4 = add i32 ( 5 7 )
output ( 4 )
jump 3 ( 4 1 )
block 3 ( 5 6 )
7 = load i32 ( 2 )
8 = slt bool ( 5 6 )
branch 8 2 ( ) 1 ( 5 )
`

func module(t *testing.T, text string) api.Module {
	t.Helper()
	m, offset, err := parser.Module(text)
	if err != api.OK {
		t.Fatalf("%v at %q", err, text[offset:])
	}
	return m
}

func sample(t *testing.T) api.Func {
	t.Helper()
	return module(t, sampleText).Funcs[0]
}

// jump returns a terminator with an edge to each of some blocks.
func jump(blocks ...int) api.Terminator {
	var term api.Terminator
	for _, block := range blocks {
		term.Succs = append(term.Succs, api.Edge{Block: block})
	}
	return term
}

// read returns an instruction that reads registers and writes none.
func read(registers ...int) api.Instr {
	return api.Instr{Op: api.OpOutput, Dst: -1, Args: registers}
}

// write returns an instruction that writes a register after it has read others.
func write(register int, args ...int) api.Instr {
	return api.Instr{Op: api.OpAdd, Type: api.I32, Dst: register, Args: args}
}

// function returns a function with three registers.
func function(blocks ...api.Block) api.Func {
	return api.Func{Regs: []api.Type{api.I32, api.I8, api.Bool}, Blocks: blocks}
}

// positionsOf returns the positions of f, in order.
func positionsOf(f api.Func) []api.Pos {
	var all []api.Pos
	for block, b := range f.Blocks {
		for index := range len(b.Instrs) + 2 {
			all = append(all, api.Pos{Block: block, Index: index - 1})
		}
	}
	return all
}

// reached returns which blocks paths lead to that avoid a block, of which there may be none; for a graph that is rejected it returns no blocks.
func reached(f api.Func, avoided int) map[int]bool {
	found := map[int]bool{}
	if len(f.Blocks) == 0 || len(f.Blocks) > api.MaxNodes || hasWrongEdge(f) || avoided == 0 {
		return found
	}
	found[0] = true
	for waiting := []int{0}; len(waiting) > 0; {
		block := waiting[0]
		waiting = waiting[1:]
		for _, e := range f.Blocks[block].Term.Succs {
			if e.Block != avoided && !found[e.Block] {
				found[e.Block] = true
				waiting = append(waiting, e.Block)
			}
		}
	}
	return found
}

func hasWrongEdge(f api.Func) bool {
	return slices.ContainsFunc(f.Blocks, func(b api.Block) bool {
		return slices.ContainsFunc(b.Term.Succs, func(e api.Edge) bool { return e.Block < 0 || e.Block >= len(f.Blocks) })
	})
}

// precedes is Precedes as the document defines it.
func precedes(f api.Func, a, b api.Pos) bool {
	all := positionsOf(f)
	if !slices.Contains(all, a) || !slices.Contains(all, b) || !reached(f, -1)[b.Block] {
		return false
	}
	if a.Block == b.Block {
		return a.Index < b.Index
	}
	return reached(f, -1)[a.Block] && !reached(f, a.Block)[b.Block]
}

// check is Check as the document defines it.
func check(f api.Func) (api.Pos, api.Errno) {
	if len(f.Blocks) == 0 || hasWrongEdge(f) {
		return api.Pos{}, api.ErrFormat
	}
	var written []int
	for _, at := range positionsOf(f) {
		for _, r := range cfg.Writes(f, at) {
			if slices.Contains(written, r) {
				return at, api.ErrDup
			}
			written = append(written, r)
		}
	}
	for _, at := range positionsOf(f) {
		for _, r := range cfg.Reads(f, at) {
			isReady := func(def api.Pos) bool { return slices.Contains(cfg.Writes(f, def), r) && precedes(f, def, at) }
			if reached(f, -1)[at.Block] && !slices.ContainsFunc(positionsOf(f), isReady) {
				return at, api.ErrDominance
			}
		}
	}
	return api.Pos{}, api.OK
}

// randomShape returns a function whose positions write each of its registers but a few once, and read nothing.
func randomShape(r *rand.Rand) api.Func {
	f := api.Func{Name: "f", Blocks: make([]api.Block, 1+r.Intn(7))}
	registers := r.Perm(60)
	fresh := func(n int) []int {
		taken := slices.Clone(registers[:n])
		registers = registers[n:]
		return taken
	}
	f.Regs = make([]api.Type, len(registers))
	for i := range f.Regs {
		f.Regs[i] = api.I32
	}
	f.Result = api.I32
	f.Params = fresh(r.Intn(3))
	for i := range f.Blocks {
		b := &f.Blocks[i]
		if i > 0 {
			b.Params = fresh(r.Intn(3))
		}
		b.Instrs = []api.Instr{{Op: api.OpConst, Type: api.I32, Dst: fresh(1)[0], Imm: int64(i)}}
		for range r.Intn(4) {
			b.Instrs = append(b.Instrs, api.Instr{Op: api.OpAdd + r.Intn(3), Type: api.I32, Dst: fresh(1)[0]})
		}
		b.Term = randomTerminator(r, len(f.Blocks))
	}
	return f
}

// randomTerminator returns a terminator of a function with n blocks that reads nothing yet.
func randomTerminator(r *rand.Rand, n int) api.Terminator {
	if n == 1 || r.Intn(5) == 0 {
		return api.Terminator{Kind: api.Return}
	}
	term := api.Terminator{Kind: api.Switch, Cases: []int64{0, 5}[:r.Intn(3)]}
	for range len(term.Cases) + 1 {
		term.Succs = append(term.Succs, api.Edge{Block: 1 + r.Intn(n-1)})
	}
	return term
}

// randomSSA returns a valid function in SSA form.
func randomSSA(r *rand.Rand) api.Func {
	f := randomShape(r)
	// ready returns n registers whose definitions precede a position, or, in an unreachable block, any.
	ready := func(n int, at api.Pos) []int {
		var all []int
		for _, def := range positionsOf(f) {
			if precedes(f, def, at) {
				all = append(all, cfg.Writes(f, def)...)
			}
		}
		var taken []int
		for range n {
			if reached(f, -1)[at.Block] {
				taken = append(taken, all[r.Intn(len(all))])
			} else {
				taken = append(taken, r.Intn(len(f.Regs)))
			}
		}
		return taken
	}
	for i, b := range f.Blocks {
		for j := range b.Instrs[1:] {
			b.Instrs[j+1].Args = ready(2, api.Pos{Block: i, Index: j + 1})
		}
		end := api.Pos{Block: i, Index: len(b.Instrs)}
		f.Blocks[i].Term.Args = ready(1, end)
		for j, e := range b.Term.Succs {
			b.Term.Succs[j].Args = ready(len(f.Blocks[e.Block].Params), end)
		}
	}
	return f
}

// damaged returns f with another number or another edge somewhere, or with fewer registers.
func damaged(r *rand.Rand, f api.Func) api.Func {
	number := r.Intn(len(f.Regs)+2) - 1
	b := &f.Blocks[r.Intn(len(f.Blocks))]
	in := &b.Instrs[r.Intn(len(b.Instrs))]
	switch r.Intn(8) {
	case 0:
		f.Params = append(f.Params, number)
	case 1:
		b.Params = append(b.Params, number)
	case 2:
		in.Dst = number
	case 3:
		in.Args = append(in.Args, number)
	case 4:
		b.Term.Args = append(b.Term.Args, number)
	case 5:
		f.Regs = f.Regs[:1+r.Intn(len(f.Regs))]
	default:
		e := api.Edge{Block: r.Intn(len(f.Blocks)+2) - 1, Args: []int{number}}
		b.Term.Succs = append(b.Term.Succs, e)
	}
	return f
}

// someFuncs returns functions of all sorts, many of them in SSA form.
func someFuncs(t *testing.T) []api.Func {
	r := rand.New(rand.NewSource(22))
	all := []api.Func{{}, sample(t), module(t, compactText).Funcs[0], {Regs: []api.Type{api.I8}, Params: []int{0}}, {Blocks: make([]api.Block, 3)}}
	for range 100 {
		all = append(all, randomSSA(r), damaged(r, randomSSA(r)), damaged(r, damaged(r, randomSSA(r))))
	}
	return all
}

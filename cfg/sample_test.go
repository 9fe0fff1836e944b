package cfg_test

import (
	"math/rand"
	"testing"

	"burnish/api"
	"burnish/parser"
)

// A module whose first function has terminators of all kinds, edges with and without arguments,
// two edges between the same blocks, loops, and a block that cannot be reached.
const sampleText = `global g i32 2 = 7
func f ( 0 1 ) i32
regs i32 i32 bool i32 i32 ptr i64 i32
block 0 ( )
2 = sle bool ( 0 0 )
5 = global ptr ( ) g
branch 2 1 ( 0 1 ) 1 ( 1 0 )
block 1 ( 3 4 )
output ( 3 )
store ( 5 3 )
switch 3 ( 7 9 ) 2 ( 4 4 ) 4 ( ) 3 ( )
block 2 ( 4 3 )
3 = add i32 ( 3 4 )
return ( 3 )
block 3 ( )
7 = const i32 ( ) 1
3 = add i32 ( 3 7 )
call i32 ( 3 7 ) h
2 = sle bool ( 3 4 )
branch 2 1 ( 3 4 ) 5 ( )
block 4 ( )
trap 99
block 5 ( )
tailcall h ( 4 3 )
block 6 ( )
jump 6 ( )
func h ( 1 0 ) i32
regs i32 i32
block 0 ( )
0 = sub i32 ( 1 0 )
output ( 0 )
return ( 0 )
`

// What the positions of the sample's first function read and write, in order.
func samplePositions() []position {
	return []position{
		{0, -1, nil, []int{0, 1}}, {0, 0, []int{0, 0}, []int{2}}, {0, 1, nil, []int{5}}, {0, 2, []int{2, 0, 1, 1, 0}, nil},
		{1, -1, nil, []int{3, 4}}, {1, 0, []int{3}, nil}, {1, 1, []int{5, 3}, nil}, {1, 2, []int{3, 4, 4}, nil},
		{2, -1, nil, []int{4, 3}}, {2, 0, []int{3, 4}, []int{3}}, {2, 1, []int{3}, nil},
		{3, -1, nil, nil}, {3, 0, nil, []int{7}}, {3, 1, []int{3, 7}, []int{3}}, {3, 2, []int{3, 7}, nil}, {3, 3, []int{3, 4}, []int{2}}, {3, 4, []int{2, 3, 4}, nil},
		{4, -1, nil, nil}, {4, 0, nil, nil},
		{5, -1, nil, nil}, {5, 0, []int{4, 3}, nil},
		{6, -1, nil, nil}, {6, 0, nil, nil},
	}
}

// sampleDefs and sampleUses return the positions of each register of the sample's first function.
func sampleDefs() [][]api.Pos {
	return [][]api.Pos{
		{{Block: 0, Index: -1}}, {{Block: 0, Index: -1}}, {{Block: 0, Index: 0}, {Block: 3, Index: 3}},
		{{Block: 1, Index: -1}, {Block: 2, Index: -1}, {Block: 2, Index: 0}, {Block: 3, Index: 1}}, {{Block: 1, Index: -1}, {Block: 2, Index: -1}},
		{{Block: 0, Index: 1}}, {}, {{Block: 3, Index: 0}},
	}
}

func sampleUses() [][]api.Pos {
	return [][]api.Pos{
		{{Block: 0, Index: 0}, {Block: 0, Index: 2}}, {{Block: 0, Index: 2}}, {{Block: 0, Index: 2}, {Block: 3, Index: 4}},
		{{Block: 1, Index: 0}, {Block: 1, Index: 1}, {Block: 1, Index: 2}, {Block: 2, Index: 0}, {Block: 2, Index: 1}, {Block: 3, Index: 1}, {Block: 3, Index: 2}, {Block: 3, Index: 3}, {Block: 3, Index: 4}, {Block: 5, Index: 0}},
		{{Block: 1, Index: 2}, {Block: 2, Index: 0}, {Block: 3, Index: 3}, {Block: 3, Index: 4}, {Block: 5, Index: 0}},
		{{Block: 1, Index: 1}}, {}, {{Block: 3, Index: 1}, {Block: 3, Index: 2}},
	}
}

// A position of a function, with the registers that it reads and writes.
type position struct {
	block, index  int
	reads, writes []int
}

func sampleModule(t *testing.T) api.Module {
	t.Helper()
	m, offset, err := parser.Module(sampleText)
	if err != api.OK {
		t.Fatalf("%v at %q", err, sampleText[offset:])
	}
	return m
}

func sample(t *testing.T) api.Func {
	t.Helper()
	return sampleModule(t).Funcs[0]
}

// invalid returns a function that the verifier rejects for all it contains.
func invalid() api.Func {
	return api.Func{Name: ";", Params: []int{2, 0, 2, -1}, Result: 99, Regs: []api.Type{api.I8, api.Void, 77}, Blocks: []api.Block{
		{
			Params: []int{1, 2, 3},
			Instrs: []api.Instr{
				{Op: api.OpOutput, Dst: 1, Args: []int{-1, 2, 3, 2}},
				{Op: -4, Type: 50, Dst: -7, Args: []int{0}, Imm: 1, Sym: 2, Elem: 3, NoWrap: true},
				{Op: api.OpAdd, Type: api.I8, Dst: 3},
			},
			Term: api.Terminator{Kind: api.Return, Args: []int{3, 1}, Cases: []int64{5, 5}, Succs: []api.Edge{{Block: 0, Args: []int{2, 9}}, {Block: -1}, {Block: 88, Args: []int{1}}}, Sym: -2},
		},
		{Params: []int{-5, 0}, Term: api.Terminator{Kind: 40, Cases: []int64{-1}, Sym: 3}},
	}}
}

// What the positions of the invalid function read and write.
func invalidPositions() []position {
	return []position{
		{0, -1, nil, []int{2, 0, 2, -1, 1, 2, 3}}, {0, 0, []int{-1, 2, 3, 2}, []int{1}}, {0, 1, []int{0}, nil}, {0, 2, nil, []int{3}}, {0, 3, []int{3, 1, 2, 9, 1}, nil},
		{1, -1, nil, []int{-5, 0}}, {1, 0, nil, nil},
	}
}

// randomFunc returns a function that need not be valid. Most of its numbers are registers and blocks.
func randomFunc(r *rand.Rand) api.Func {
	f := api.Func{Name: string(rune('a' + r.Intn(26))), Result: randomType(r)}
	for range r.Intn(7) {
		f.Regs = append(f.Regs, randomType(r))
	}
	f.Params = randomNumbers(r, len(f.Regs))
	f.Blocks = make([]api.Block, r.Intn(6))
	for i := range f.Blocks {
		f.Blocks[i] = randomBlock(r, f)
	}
	return f
}

func randomType(r *rand.Rand) api.Type {
	return api.Type(r.Intn(9))
}

// randomNumbers returns a short list of numbers from -1 to n.
func randomNumbers(r *rand.Rand, n int) []int {
	var all []int
	for range r.Intn(5) {
		all = append(all, r.Intn(n+2)-1)
	}
	return all
}

func randomBlock(r *rand.Rand, f api.Func) api.Block {
	b := api.Block{Params: randomNumbers(r, len(f.Regs))}
	for range r.Intn(5) {
		b.Instrs = append(b.Instrs, api.Instr{
			Op: r.Intn(34), Type: randomType(r), Dst: r.Intn(len(f.Regs)+2) - 1, Args: randomNumbers(r, len(f.Regs)),
			Imm: r.Int63(), Sym: r.Intn(3), Elem: randomType(r), NoWrap: r.Intn(2) == 0,
		})
	}
	b.Term = api.Terminator{Kind: r.Intn(8), Args: randomNumbers(r, len(f.Regs)), Sym: r.Intn(3)}
	for _, block := range randomNumbers(r, len(f.Blocks)) {
		b.Term.Cases = append(b.Term.Cases, r.Int63())
		b.Term.Succs = append(b.Term.Succs, api.Edge{Block: block, Args: randomNumbers(r, len(f.Regs))})
	}
	return b
}

// someFuncs returns functions of all sorts.
func someFuncs(t *testing.T) []api.Func {
	r := rand.New(rand.NewSource(20))
	all := []api.Func{{}, sample(t), sampleModule(t).Funcs[1], invalid(), {Regs: []api.Type{api.I8}, Params: []int{0}}}
	for range 300 {
		all = append(all, randomFunc(r))
	}
	return all
}

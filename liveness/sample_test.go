package liveness_test

import (
	"math/rand"
	"slices"
	"testing"

	"burnish/api"
	"burnish/cfg"
	"burnish/parser"
)

// A module whose function has loops, a block that cannot be reached (4), edges with
// arguments, two edges between the same blocks, registers that are written twice, and
// one that is read before anything has written it (6).
const sampleText = `global g i32 2 = 7
func f ( 0 1 ) i32
regs i32 i32 i32 i32 bool i32 i32 ptr i32
block 0 ( )
5 = const i32 ( ) 1
7 = global ptr ( ) g
jump 1 ( 0 )
block 1 ( 2 )
4 = slt bool ( 2 1 )
branch 4 2 ( ) 3 ( 2 )
block 2 ( )
output ( 2 )
store ( 7 2 )
6 = add i32 ( 6 5 )
2 = add i32 ( 2 5 )
jump 1 ( 2 )
block 3 ( 3 )
8 = load i32 ( 7 )
8 = sub i32 ( 8 3 )
switch 3 ( 4 6 ) 5 ( ) 3 ( 8 ) 5 ( )
block 4 ( )
8 = add i32 ( 8 0 )
jump 3 ( 8 )
block 5 ( )
return ( 8 )
`

// What is live in the sample's function: before each position of each block, and behind it.
func sampleBefore() [][][]int {
	return [][][]int{
		{{6}, {0, 1, 6}, {0, 1, 5, 6}, {0, 1, 5, 6, 7}},
		{{1, 5, 6, 7}, {1, 2, 5, 6, 7}, {1, 2, 4, 5, 6, 7}},
		{{1, 2, 5, 6, 7}, {1, 2, 5, 6, 7}, {1, 2, 5, 6, 7}, {1, 2, 5, 6, 7}, {1, 2, 5, 6, 7}, {1, 2, 5, 6, 7}},
		{{7}, {3, 7}, {3, 7, 8}, {3, 7, 8}},
		{{0, 7, 8}, {0, 7, 8}, {7, 8}},
		{{8}, {8}},
	}
}

func sampleOut() [][]int {
	return [][]int{{1, 5, 6, 7}, {1, 2, 5, 6, 7}, {1, 5, 6, 7}, {7, 8}, {7}, {}}
}

func sampleModule(t *testing.T) api.Module {
	t.Helper()
	m, offset, err := parser.Module(sampleText)
	if err != api.OK {
		t.Fatalf("%v at %q", err, sampleText[offset:])
	}
	return m
}

func sample(t *testing.T) api.Func {
	t.Helper()
	return sampleModule(t).Funcs[0]
}

// row returns a row with the given registers of n.
func row(n int, registers ...int) []bool {
	live := make([]bool, n)
	for _, r := range registers {
		live[r] = true
	}
	return live
}

func equalRows(a, b [][]bool) bool {
	return slices.EqualFunc(a, b, slices.Equal[[]bool])
}

// positionsOf returns the positions of f, in order.
func positionsOf(f api.Func) []api.Pos {
	var all []api.Pos
	for block, b := range f.Blocks {
		for index := range len(b.Instrs) + 2 {
			all = append(all, api.Pos{Block: block, Index: index - 1})
		}
	}
	return all
}

// successors returns the successors of a position of f.
func successors(f api.Func, at api.Pos) []api.Pos {
	if at.Index < len(f.Blocks[at.Block].Instrs) {
		return []api.Pos{{Block: at.Block, Index: at.Index + 1}}
	}
	var next []api.Pos
	for _, e := range f.Blocks[at.Block].Term.Succs {
		if e.Block >= 0 && e.Block < len(f.Blocks) {
			next = append(next, api.Pos{Block: e.Block, Index: -1})
		}
	}
	return next
}

// isLive looks for a sequence of positions by which register r is live before a position.
func isLive(f api.Func, r int, at api.Pos) bool {
	seen := map[api.Pos]bool{at: true}
	for waiting := []api.Pos{at}; len(waiting) > 0; {
		at, waiting = waiting[0], waiting[1:]
		if slices.Contains(cfg.Reads(f, at), r) {
			return true
		}
		if slices.Contains(cfg.Writes(f, at), r) {
			continue
		}
		for _, next := range successors(f, at) {
			if !seen[next] {
				seen[next] = true
				waiting = append(waiting, next)
			}
		}
	}
	return false
}

// liveBefore returns the row of the registers that are live before a position.
func liveBefore(f api.Func, at api.Pos) []bool {
	live := make([]bool, len(f.Regs))
	for r := range live {
		live[r] = isLive(f, r, at)
	}
	return live
}

// someNumbers returns a few numbers, most of them at least 0 and less than n.
func someNumbers(r *rand.Rand, n int) []int {
	var all []int
	for range r.Intn(3) {
		all = append(all, r.Intn(n+1)-r.Intn(2))
	}
	return all
}

// randomFunc returns a function that is not valid. Most of its registers and blocks exist.
func randomFunc(r *rand.Rand) api.Func {
	f := api.Func{Regs: make([]api.Type, r.Intn(7)), Blocks: make([]api.Block, r.Intn(7))}
	f.Params = someNumbers(r, len(f.Regs))
	for i := range f.Blocks {
		b := &f.Blocks[i]
		b.Params = someNumbers(r, len(f.Regs))
		for range r.Intn(3) {
			b.Instrs = append(b.Instrs, api.Instr{Dst: r.Intn(len(f.Regs)+2) - 1, Args: someNumbers(r, len(f.Regs))})
		}
		b.Term.Args = someNumbers(r, len(f.Regs))
		for _, target := range someNumbers(r, len(f.Blocks)) {
			b.Term.Succs = append(b.Term.Succs, api.Edge{Block: target, Args: someNumbers(r, len(f.Regs))})
		}
	}
	return f
}

// someFuncs returns functions of all sorts.
func someFuncs(t *testing.T) []api.Func {
	r := rand.New(rand.NewSource(21))
	all := []api.Func{{}, sample(t), {Regs: []api.Type{api.I8}, Params: []int{0}}, {Blocks: make([]api.Block, 3)}}
	for range 400 {
		all = append(all, randomFunc(r))
	}
	return all
}

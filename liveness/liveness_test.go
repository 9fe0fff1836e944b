package liveness_test

import (
	"math"
	"slices"
	"testing"

	"burnish/api"
	"burnish/cfg"
	"burnish/liveness"
	"burnish/verify"
)

// jump returns a terminator with one edge.
func jump(block int, args ...int) api.Terminator {
	return api.Terminator{Kind: api.Jump, Succs: []api.Edge{{Block: block, Args: args}}}
}

// read returns an instruction that reads registers and writes none.
func read(registers ...int) api.Instr {
	return api.Instr{Op: api.OpOutput, Dst: -1, Args: registers}
}

// write returns an instruction that writes a register after it has read others.
func write(register int, args ...int) api.Instr {
	return api.Instr{Op: api.OpAdd, Type: api.I32, Dst: register, Args: args}
}

func expectLive(t *testing.T, name string, f api.Func, in, out [][]int) {
	t.Helper()
	gotIn, gotOut := liveness.In(f), liveness.Out(f)
	if len(gotIn) != len(f.Blocks) || len(gotOut) != len(f.Blocks) || len(in) != len(f.Blocks) || len(out) != len(f.Blocks) {
		t.Fatalf("%s: %d and %d rows", name, len(gotIn), len(gotOut))
	}
	for block := range f.Blocks {
		if want := row(len(f.Regs), in[block]...); !slices.Equal(gotIn[block], want) {
			t.Errorf("%s: In of block %d: %v, want %v", name, block, gotIn[block], want)
		}
		if want := row(len(f.Regs), out[block]...); !slices.Equal(gotOut[block], want) {
			t.Errorf("%s: Out of block %d: %v, want %v", name, block, gotOut[block], want)
		}
	}
}

// P21.1: example 1
func TestExample(t *testing.T) {
	f := api.Func{Regs: make([]api.Type, 2), Blocks: []api.Block{
		{Instrs: []api.Instr{write(0)}, Term: jump(1, 0)},
		{Params: []int{1}, Instrs: []api.Instr{read(0, 1)}, Term: jump(1, 1)},
	}}
	expectLive(t, "example 1", f, [][]int{{}, {0}}, [][]int{{0}, {0}})
}

// P21.1
func TestSample(t *testing.T) {
	f, before := sample(t), sampleBefore()
	var in [][]int
	for block := range before {
		in = append(in, before[block][0])
	}
	expectLive(t, "the sample", f, in, sampleOut())
	positions := 0
	for block, rows := range before {
		for i, registers := range rows {
			at := api.Pos{Block: block, Index: i - 1}
			if got, want := liveness.Before(f, at), row(len(f.Regs), registers...); !slices.Equal(got, want) {
				t.Errorf("before %v: %v, want %v", at, got, want)
			}
			positions++
		}
	}
	if positions != len(positionsOf(f)) {
		t.Errorf("%d positions", positions)
	}
}

// P21.1: small functions, for each of which the live registers are told per block
func TestSmallFunctions(t *testing.T) {
	three := make([]api.Type, 3)
	for name, x := range map[string]struct {
		f       api.Func
		in, out [][]int
	}{
		"no blocks":                    {api.Func{Regs: three, Params: []int{0}}, nil, nil},
		"no registers":                 {api.Func{Blocks: []api.Block{{Instrs: []api.Instr{read(0, 1)}, Term: jump(0)}}}, [][]int{{}}, [][]int{{}}},
		"nothing is read":              {api.Func{Regs: three, Blocks: []api.Block{{Instrs: []api.Instr{write(0)}, Term: jump(0)}}}, [][]int{{}}, [][]int{{}}},
		"a parameter of the function":  {api.Func{Regs: three, Params: []int{0}, Blocks: []api.Block{{Instrs: []api.Instr{read(0, 1)}}}}, [][]int{{1}}, [][]int{{}}},
		"a parameter of block 0":       {api.Func{Regs: three, Blocks: []api.Block{{Params: []int{0}, Instrs: []api.Instr{read(0, 1)}}}}, [][]int{{1}}, [][]int{{}}},
		"read, then written":           {api.Func{Regs: three, Blocks: []api.Block{{Instrs: []api.Instr{read(0), write(0)}}}}, [][]int{{0}}, [][]int{{}}},
		"written, then read":           {api.Func{Regs: three, Blocks: []api.Block{{Instrs: []api.Instr{write(0), read(0)}}}}, [][]int{{}}, [][]int{{}}},
		"read and written at once":     {api.Func{Regs: three, Blocks: []api.Block{{Instrs: []api.Instr{write(0, 0)}}}}, [][]int{{0}}, [][]int{{}}},
		"its own edge":                 {api.Func{Regs: three, Blocks: []api.Block{{Instrs: []api.Instr{read(0), write(0)}, Term: jump(0)}}}, [][]int{{0}}, [][]int{{0}}},
		"the terminator reads":         {api.Func{Regs: three, Blocks: []api.Block{{Term: api.Terminator{Args: []int{1}, Succs: []api.Edge{{Block: 0, Args: []int{2}}}}}}}, [][]int{{1, 2}}, [][]int{{1, 2}}},
		"passed to itself":             {api.Func{Regs: three, Blocks: []api.Block{{Term: jump(1, 0)}, {Params: []int{0}, Term: jump(1, 0)}}}, [][]int{{0}, {}}, [][]int{{}, {}}},
		"blocks that are not there":    {api.Func{Regs: three, Blocks: []api.Block{{Term: api.Terminator{Succs: []api.Edge{{Block: 1}, {Block: -1}, {Block: math.MaxInt}, {Block: math.MinInt, Args: []int{2}}}}}}}, [][]int{{2}}, [][]int{{}}},
		"numbers that no register has": {api.Func{Regs: three, Params: []int{-1, 3}, Blocks: []api.Block{{Params: []int{math.MinInt}, Instrs: []api.Instr{write(3, -1, 3), write(math.MaxInt, 2, math.MinInt)}}}}, [][]int{{2}}, [][]int{{}}},
		"one path writes":              {api.Func{Regs: three, Blocks: []api.Block{{Term: api.Terminator{Succs: []api.Edge{{Block: 1}, {Block: 2}}}}, {Instrs: []api.Instr{write(0)}, Term: jump(3)}, {Term: jump(3)}, {Instrs: []api.Instr{read(0)}}}}, [][]int{{0}, {}, {0}, {0}}, [][]int{{0}, {0}, {0}, {}}},
		"an edge twice":                {api.Func{Regs: three, Blocks: []api.Block{{Term: api.Terminator{Succs: []api.Edge{{Block: 1}, {Block: 0}, {Block: 1}}}}, {Instrs: []api.Instr{read(1)}}}}, [][]int{{1}, {1}}, [][]int{{1}, {}}},
		"blocks that nothing reaches":  {api.Func{Regs: three, Blocks: []api.Block{{}, {Term: jump(2)}, {Instrs: []api.Instr{read(1)}}}}, [][]int{{}, {1}, {1}}, [][]int{{}, {1}, {}}},
		"two loops":                    {api.Func{Regs: three, Blocks: []api.Block{{Instrs: []api.Instr{write(0)}, Term: jump(1)}, {Term: jump(2)}, {Term: api.Terminator{Succs: []api.Edge{{Block: 2}, {Block: 3}}}}, {Instrs: []api.Instr{read(0)}, Term: jump(1)}}}, [][]int{{}, {0}, {0}, {0}}, [][]int{{0}, {0}, {0}, {0}}},
	} {
		expectLive(t, name, x.f, x.in, x.out)
	}
}

// P21.1: positions that are not in the function
func TestPositionsOutside(t *testing.T) {
	for i, f := range someFuncs(t) {
		blocks := []int{math.MinInt, -2, -1, len(f.Blocks), len(f.Blocks) + 1, math.MaxInt}
		for _, block := range blocks {
			for _, index := range []int{math.MinInt, -1, 0, 1, math.MaxInt} {
				expectNothing(t, i, f, api.Pos{Block: block, Index: index})
			}
		}
		for block, b := range f.Blocks {
			for _, index := range []int{math.MinInt, -3, -2, len(b.Instrs) + 1, len(b.Instrs) + 2, math.MaxInt} {
				expectNothing(t, i, f, api.Pos{Block: block, Index: index})
			}
		}
	}
}

func expectNothing(t *testing.T, i int, f api.Func, at api.Pos) {
	t.Helper()
	if got := liveness.Before(f, at); got != nil {
		t.Errorf("function %d, before %v: %v", i, at, got)
	}
}

// P21.1: more registers than a set of package bitset has room for
func TestManyRegisters(t *testing.T) {
	last := api.MaxNodes + 9
	f := api.Func{Regs: make([]api.Type, last+1), Blocks: []api.Block{
		{Instrs: []api.Instr{write(last), write(0)}, Term: jump(1)},
		{Instrs: []api.Instr{read(0)}, Term: jump(2)},
		{Instrs: []api.Instr{read(last, api.MaxNodes, last+1)}},
	}}
	many := api.MaxNodes
	expectLive(t, "many registers", f, [][]int{{many}, {0, many, last}, {many, last}}, [][]int{{0, many, last}, {many, last}, {}})
	if got := liveness.Before(f, api.Pos{Block: 0, Index: 1}); !slices.Equal(got, row(last+1, many, last)) {
		t.Error("a wrong register is live behind the first instruction")
	}
}

// P21.1: more blocks than a queue of package worklist has room for, each with an edge to the next one and to the first one
func TestManyBlocks(t *testing.T) {
	f := api.Func{Regs: make([]api.Type, 2), Params: []int{0}, Blocks: make([]api.Block, api.MaxNodes+9)}
	last := len(f.Blocks) - 1
	for block := range last {
		f.Blocks[block].Term = api.Terminator{Succs: []api.Edge{{Block: block + 1}, {Block: 0}}}
	}
	f.Blocks[last].Instrs = []api.Instr{read(0, 1)}
	in, out := liveness.In(f), liveness.Out(f)
	for block := range f.Blocks {
		if isFirst := block == 0; !slices.Equal(in[block], []bool{!isFirst, true}) {
			t.Fatalf("In of block %d: %v", block, in[block])
		}
		if isLast := block == last; !slices.Equal(out[block], []bool{!isLast, !isLast}) {
			t.Fatalf("Out of block %d: %v", block, out[block])
		}
	}
	if got := liveness.Before(f, api.Pos{Block: 5}); !slices.Equal(got, []bool{true, true}) {
		t.Errorf("before the terminator of block 5: %v", got)
	}
}

// P21.1: many edges between two blocks, and all registers that a function may have live all over
func TestManyEdges(t *testing.T) {
	f := api.Func{Regs: make([]api.Type, api.MaxRegs), Blocks: make([]api.Block, api.MaxBlocks)}
	all := make([]int, api.MaxRegs)
	for r := range all {
		all[r] = r
	}
	for block := range f.Blocks {
		for i := range 100 {
			f.Blocks[block].Term.Succs = append(f.Blocks[block].Term.Succs, api.Edge{Block: (block + i%5) % len(f.Blocks)})
		}
	}
	f.Blocks[7].Instrs = []api.Instr{read(all...)}
	for _, rows := range [][][]bool{liveness.In(f), liveness.Out(f)} {
		for block := range f.Blocks {
			if slices.Contains(rows[block], false) {
				t.Fatalf("a register is not live in block %d", block)
			}
		}
	}
}

// P21.1: by the definition
func TestRandomFunctions(t *testing.T) {
	for _, f := range someFuncs(t) {
		in, out := liveness.In(f), liveness.Out(f)
		if len(in) != len(f.Blocks) || len(out) != len(f.Blocks) {
			t.Fatalf("In %v, Out %v\n%+v", in, out, f)
		}
		for _, at := range positionsOf(f) {
			want := liveBefore(f, at)
			if got := liveness.Before(f, at); !slices.Equal(got, want) {
				t.Fatalf("before %v: %v, want %v\n%+v", at, got, want, f)
			}
			if at.Index < 0 && !slices.Equal(in[at.Block], want) {
				t.Fatalf("In of block %d: %v, want %v\n%+v", at.Block, in[at.Block], want, f)
			}
		}
		for block := range f.Blocks {
			want := liveAfter(f, api.Pos{Block: block, Index: len(f.Blocks[block].Instrs)}, liveBefore)
			if !slices.Equal(out[block], want) {
				t.Fatalf("Out of block %d: %v, want %v\n%+v", block, out[block], want, f)
			}
		}
	}
}

// liveAfter returns the row of the registers that are live before a successor of a position.
func liveAfter(f api.Func, at api.Pos, before func(f api.Func, at api.Pos) []bool) []bool {
	live := make([]bool, len(f.Regs))
	for _, next := range successors(f, at) {
		for r, isLive := range before(f, next) {
			live[r] = live[r] || isLive
		}
	}
	return live
}

// P21.2
func TestLiveIfReadOrLiveBehind(t *testing.T) {
	for _, f := range someFuncs(t) {
		for _, at := range positionsOf(f) {
			want, reads, writes := liveAfter(f, at, liveness.Before), cfg.Reads(f, at), cfg.Writes(f, at)
			for r, isLive := range want {
				want[r] = slices.Contains(reads, r) || isLive && !slices.Contains(writes, r)
			}
			if got := liveness.Before(f, at); !slices.Equal(got, want) {
				t.Fatalf("before %v: %v, want %v\n%+v", at, got, want, f)
			}
		}
	}
}

// Rule 4: the functions change nothing that they are given, nor does what becomes of an answer reach another one.
func TestArgumentsAndAnswersAreApart(t *testing.T) {
	for _, f := range someFuncs(t) {
		given := verify.CloneFunc(f)
		in, out := liveness.In(f), liveness.Out(f)
		wantIn, wantOut := liveness.In(f), liveness.Out(f)
		for _, rows := range [][][]bool{in, out} {
			for block := range rows {
				copied := slices.Clone(rows[block])
				for other := range rows {
					if other != block {
						rows[other] = append(rows[other], true)
						rows[other][0] = !rows[other][0]
					}
				}
				if !slices.Equal(rows[block], copied) {
					t.Fatalf("row %d has become %v", block, rows[block])
				}
			}
		}
		if !equalRows(liveness.In(f), wantIn) || !equalRows(liveness.Out(f), wantOut) || !verify.EqualFunc(f, given) {
			t.Fatalf("the function has become %+v", f)
		}
	}
}

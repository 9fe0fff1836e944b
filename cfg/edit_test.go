package cfg_test

import (
	"math"
	"math/rand"
	"reflect"
	"slices"
	"testing"

	"burnish/api"
	"burnish/cfg"
	"burnish/digraph"
	"burnish/interp"
	"burnish/refine"
	"burnish/value"
	"burnish/verify"
)

// forEdges calls do with each block and each number of a successor of it.
func forEdges(f api.Func, do func(block, succ int)) {
	for block, b := range f.Blocks {
		for succ := range b.Term.Succs {
			do(block, succ)
		}
	}
}

// P20.2: the second of the two edges from block 0 to block 1
func TestSplitEdge(t *testing.T) {
	f := sample(t)
	got, ok := cfg.SplitEdge(f, 0, 1)
	want := sample(t)
	want.Blocks[0].Term.Succs[1] = api.Edge{Block: 7}
	want.Blocks = append(want.Blocks, api.Block{Term: api.Terminator{Kind: api.Jump, Succs: []api.Edge{{Block: 1, Args: []int{1, 0}}}}})
	if !ok || !verify.EqualFunc(got, want) {
		t.Errorf("%v, %+v", ok, got)
	}
	if !verify.EqualFunc(f, sample(t)) {
		t.Errorf("the function has become %+v", f)
	}
}

// P20.2: undoing the split gives the function again.
func TestSplitsOfAllEdges(t *testing.T) {
	for _, f := range someFuncs(t) {
		forEdges(f, func(block, succ int) {
			g, ok := cfg.SplitEdge(f, block, succ)
			if !ok || len(g.Blocks) != len(f.Blocks)+1 {
				t.Fatalf("edge %d of block %d: %v, %+v", succ, block, ok, g)
			}
			last := g.Blocks[len(f.Blocks)]
			edge := &g.Blocks[block].Term.Succs[succ]
			if edge.Block != len(f.Blocks) || len(edge.Args) > 0 || len(last.Params)+len(last.Instrs) > 0 || len(last.Term.Succs) != 1 {
				t.Fatalf("edge %d of block %d: %+v", succ, block, g)
			}
			*edge, last.Term.Succs = last.Term.Succs[0], nil
			g.Blocks = g.Blocks[:len(f.Blocks)]
			if !reflect.DeepEqual(last.Term, api.Terminator{Kind: api.Jump}) || !verify.EqualFunc(f, g) {
				t.Fatalf("edge %d of block %d: %+v\n%+v", succ, block, last.Term, g)
			}
		})
	}
}

// P20.2
func TestSplitsOfNoEdge(t *testing.T) {
	for i, f := range someFuncs(t) {
		outside := []int{math.MinInt, -1, math.MaxInt}
		for _, block := range append(outside, len(f.Blocks), len(f.Blocks)+1) {
			for _, succ := range append(outside, 0, 1) {
				expectNoSplit(t, i, f, block, succ)
			}
		}
		for block, b := range f.Blocks {
			for _, succ := range append(outside, len(b.Term.Succs), len(b.Term.Succs)+1) {
				expectNoSplit(t, i, f, block, succ)
			}
		}
	}
}

func expectNoSplit(t *testing.T, i int, f api.Func, block, succ int) {
	t.Helper()
	if g, ok := cfg.SplitEdge(f, block, succ); ok || !reflect.DeepEqual(g, api.Func{}) {
		t.Errorf("function %d, edge %d of block %d: %v, %+v", i, succ, block, ok, g)
	}
}

// P20.7
func TestContractingTheNewBlock(t *testing.T) {
	contracted := 0
	for _, f := range someFuncs(t) {
		original := cfg.Graph(f)
		if digraph.Check(original) != api.OK {
			continue // it may have an edge to the number that the new block gets
		}
		forEdges(f, func(block, succ int) {
			g, _ := cfg.SplitEdge(f, block, succ)
			succs := cfg.Graph(g).Succs
			middle := len(original.Succs)
			if len(succs) != middle+1 || len(succs[middle]) != 1 || succs[block][succ] != middle {
				t.Fatalf("edge %d of block %d: %v", succ, block, succs)
			}
			succs[block][succ] = succs[middle][0]
			if !equal(succs[:middle], original.Succs) {
				t.Fatalf("edge %d of block %d: %v, want %v", succ, block, succs[:middle], original.Succs)
			}
			contracted++
		})
	}
	if contracted < 50 {
		t.Errorf("%d edges", contracted)
	}
}

// P20.5
func TestNewReg(t *testing.T) {
	for i, f := range someFuncs(t) {
		before := verify.CloneFunc(f)
		for _, ty := range []api.Type{api.I32, api.V4, api.Void, -1, 99} {
			g, r := cfg.NewReg(f, ty)
			if r != len(f.Regs) || len(g.Regs) != r+1 || g.Regs[r] != ty {
				t.Errorf("function %d, type %d: register %d of %v", i, ty, r, g.Regs)
			}
			g.Regs = g.Regs[:r]
			if !verify.EqualFunc(g, f) || !verify.EqualFunc(f, before) {
				t.Errorf("function %d, type %d: %+v", i, ty, g)
			}
		}
	}
	full := api.Func{Regs: make([]api.Type, api.MaxRegs)}
	if g, r := cfg.NewReg(full, api.I8); r != api.MaxRegs || len(g.Regs) != api.MaxRegs+1 {
		t.Errorf("behind MaxRegs registers: %d", r)
	}
}

// P20.6
func TestPermute(t *testing.T) {
	perm := []int{2, 3, 1, 0, 5, 7, 6, 4}
	m := sampleModule(t)
	m.Funcs[0] = cfg.Permute(m.Funcs[0], perm)
	want := `func f ( 2 3 ) i32
regs i32 bool i32 i32 i32 i32 i64 ptr
block 0 ( )
1 = sle bool ( 2 2 )
7 = global ptr ( ) g
branch 1 1 ( 2 3 ) 1 ( 3 2 )
block 1 ( 0 5 )
output ( 0 )
store ( 7 0 )
switch 0 ( 7 9 ) 2 ( 5 5 ) 4 ( ) 3 ( )
block 2 ( 5 0 )
0 = add i32 ( 0 5 )
return ( 0 )
block 3 ( )
4 = const i32 ( ) 1
0 = add i32 ( 0 4 )
call i32 ( 0 4 ) h
1 = sle bool ( 0 5 )
branch 1 1 ( 0 5 ) 5 ( )
block 4 ( )
trap 99
block 5 ( )
tailcall h ( 5 0 )
block 6 ( )
jump 6 ( )
`
	expectText(t, m, 0, want)
}

// P20.6: what is no register stays, and so do all fields that name none.
func TestPermuteOfAnInvalidFunction(t *testing.T) {
	got := cfg.Permute(invalid(), []int{1, 2, 0})
	want := api.Func{Name: ";", Params: []int{0, 1, 0, -1}, Result: 99, Regs: []api.Type{77, api.I8, api.Void}, Blocks: []api.Block{
		{
			Params: []int{2, 0, 3},
			Instrs: []api.Instr{
				{Op: api.OpOutput, Dst: 2, Args: []int{-1, 0, 3, 0}},
				{Op: -4, Type: 50, Dst: -7, Args: []int{1}, Imm: 1, Sym: 2, Elem: 3, NoWrap: true},
				{Op: api.OpAdd, Type: api.I8, Dst: 3},
			},
			Term: api.Terminator{Kind: api.Return, Args: []int{3, 2}, Cases: []int64{5, 5}, Succs: []api.Edge{{Block: 0, Args: []int{0, 9}}, {Block: -1}, {Block: 88, Args: []int{2}}}, Sym: -2},
		},
		{Params: []int{-5, 1}, Term: api.Terminator{Kind: 40, Cases: []int64{-1}, Sym: 3}},
	}}
	if !verify.EqualFunc(got, want) {
		t.Errorf("%+v\nwant %+v", got, want)
	}
}

// P20.6: what is not a permutation of the registers changes nothing.
func TestPermuteByNoPermutation(t *testing.T) {
	identity := []int{0, 1, 2, 3, 4, 5, 6, 7}
	f := sample(t)
	for i, perm := range [][]int{
		nil, {}, {0}, {1, 0}, identity[:7], append(slices.Clone(identity), 8), append(slices.Clone(identity), 0),
		{1, 0, 2, 3, 4, 5, 6, 8}, {1, 0, 2, 3, 4, 5, 6, -1}, {1, 0, 2, 3, 4, 5, 6, 6}, {1, 1, 2, 3, 4, 5, 6, 7}, {7, 0, 2, 3, 4, 5, 6, 7},
		{1, 0, 2, 3, 4, 5, 6, math.MaxInt}, {math.MinInt, 0, 2, 3, 4, 5, 6, 7}, identity,
	} {
		if got := cfg.Permute(f, perm); !verify.EqualFunc(got, f) {
			t.Errorf("list %d: %+v", i, got)
		}
	}
	none := api.Func{Params: []int{0, -1}, Blocks: []api.Block{{Params: []int{3}}}}
	for _, perm := range [][]int{nil, {}, {0}, {3}} {
		if got := cfg.Permute(none, perm); !verify.EqualFunc(got, none) {
			t.Errorf("no registers, by %v: %+v", perm, got)
		}
	}
}

func inverse(perm []int) []int {
	all := make([]int, len(perm))
	for i, p := range perm {
		all[p] = i
	}
	return all
}

// renamed returns what the registers in the list have become.
func renamed(list, perm []int) []int {
	var all []int
	for _, r := range list {
		if r >= 0 && r < len(perm) {
			r = perm[r]
		}
		all = append(all, r)
	}
	return all
}

// P20.6 and P20.8
func TestPermuteByInverses(t *testing.T) {
	r := rand.New(rand.NewSource(8))
	for _, f := range someFuncs(t) {
		for range 5 {
			perm := r.Perm(len(f.Regs))
			g := cfg.Permute(f, perm)
			for i, ty := range f.Regs {
				if g.Regs[perm[i]] != ty {
					t.Fatalf("by %v: registers %v have become %v", perm, f.Regs, g.Regs)
				}
			}
			for _, at := range positionsOf(f) {
				if !slices.Equal(cfg.Reads(g, at), renamed(cfg.Reads(f, at), perm)) || !slices.Equal(cfg.Writes(g, at), renamed(cfg.Writes(f, at), perm)) {
					t.Fatalf("by %v, at %v: Reads %v, Writes %v\n%+v", perm, at, cfg.Reads(g, at), cfg.Writes(g, at), f)
				}
			}
			if back := cfg.Permute(g, inverse(perm)); !verify.EqualFunc(back, f) {
				t.Fatalf("by %v and back: %+v, want %+v", perm, back, f)
			}
		}
	}
}

// edited returns the sample's first function after each of some edits.
func edited(f api.Func) []api.Func {
	r := rand.New(rand.NewSource(3))
	more, _ := cfg.NewReg(f, api.V2)
	all := []api.Func{more, f}
	forEdges(f, func(block, succ int) {
		split, _ := cfg.SplitEdge(f, block, succ)
		all = append(all, split)
		f, _ = cfg.SplitEdge(all[1], block, succ) // on top of the earlier ones
		all[1] = f
	})
	for range 5 {
		all = append(all, cfg.Permute(more, r.Perm(len(more.Regs))))
	}
	return all
}

// The edits do not change what a function computes.
func TestEditsKeepTheMeaning(t *testing.T) {
	kinds := map[int]bool{}
	for i, f := range edited(sample(t)) {
		m := sampleModule(t)
		m.Funcs[0] = f
		if d := verify.Module(m); d != (api.Diagnostic{}) {
			t.Fatalf("edit %d: %+v\n%+v", i, d, f)
		}
		for n := range int64(11) {
			in := api.Input{Args: []api.Value{value.Int(api.I32, n), value.Int(api.I32, 12-n*n/2)}}
			want := interp.Run(sampleModule(t), 0, in, api.Limits{Steps: 1000, Frames: 2})
			got := interp.Run(m, 0, in, api.Limits{Steps: 2000, Frames: 2})
			kinds[want.Kind*100+want.Code] = true
			if !refine.Outcome(got, want) || !refine.Outcome(want, got) || want.Kind == api.Exhausted {
				t.Errorf("edit %d, input %d: %+v, want %+v", i, n, got, want)
			}
		}
	}
	if len(kinds) < 2 {
		t.Errorf("the runs end in these ways only: %v", kinds)
	}
}

package witness_test

import (
	"math/rand"
	"slices"
	"testing"

	"burnish/api"
	"burnish/expr"
	"burnish/verify"
	"burnish/witness"
)

func expectIdentity(t *testing.T, name string, src, dst api.Func, extra []api.Invariant, want api.Witness) {
	t.Helper()
	if got := witness.Identity(src, dst, extra); !witness.Equal(got, want) {
		t.Errorf("%s:\n%+v, want\n%+v", name, got, want)
	}
}

// same returns the invariants that some registers of the target are those of the source.
func same(registers ...int) []api.Invariant {
	var list []api.Invariant
	for _, r := range registers {
		list = append(list, holds(r, expr.Reg(r)))
	}
	return list
}

// along returns the path that takes the same successors in both functions.
func along(start, end int, successors ...int) api.Path {
	return path(start, end, successors, slices.Clone(successors))
}

// P24.3: example 1
func TestIdentityOfOneBlock(t *testing.T) {
	src, _ := samples(t)
	want := api.Witness{CutPoints: []api.CutPoint{{}}, Paths: []api.Path{along(0, -1, -1)}}
	expectIdentity(t, "example 1", src.Funcs[0], src.Funcs[0], nil, want)
	expectIdentity(t, "with an extra invariant", src.Funcs[0], src.Funcs[0], []api.Invariant{ofSource(0, expr.Const(api.I32, 0))}, want)
	expectIdentity(t, "no blocks", api.Func{}, api.Func{}, nil, api.Witness{})
	expectIdentity(t, "no blocks in the source", api.Func{}, src.Funcs[0], nil, api.Witness{})
	expectIdentity(t, "no blocks in the target", src.Funcs[0], api.Func{}, nil, api.Witness{})
}

// P24.3: block 4, which nothing leads to, has no cut point.
func TestIdentity(t *testing.T) {
	src, _ := samples(t)
	f := src.Funcs[fn]
	point := func(block int, list ...api.Invariant) api.CutPoint {
		return api.CutPoint{Target: block, Source: block, Invariants: list}
	}
	want := api.Witness{
		CutPoints: []api.CutPoint{{}, point(1, same(0, 1, 3, 5)...), point(2, same(0, 1, 3, 5)...), point(3, same(3)...)},
		Paths:     []api.Path{along(0, 1, 0), along(1, 2, 0), along(1, 3, 1), along(2, 1, 0), along(3, -1, -1)},
	}
	expectIdentity(t, "the sample", f, f, nil, want)
	zero := expr.Const(api.I32, 0)
	want.CutPoints[1].Invariants = append(want.CutPoints[1].Invariants, ofSource(1, zero))
	want.CutPoints[2].Invariants = append(want.CutPoints[2].Invariants, ofSource(1, zero))
	want.CutPoints[1].Invariants[0] = holds(0, zero)
	want.CutPoints[2].Invariants[0] = holds(0, zero)
	want.CutPoints[3].Invariants = append(want.CutPoints[3].Invariants, ofSource(1, zero))
	expectIdentity(t, "with extra invariants", f, f, []api.Invariant{holds(0, zero), ofSource(6, zero), ofSource(1, zero), holds(4, zero)}, want)
}

// P24.3: the functions need not have the same blocks and registers.
func TestIdentityOfDifferentFunctions(t *testing.T) {
	m := module(t, `func f ( 0 ) i32
regs i32 bool i32 i32 i64
block 0 ( )
1 = slt bool ( 0 0 )
branch 1 2 ( ) 4 ( )
block 1 ( )
trap 16
block 2 ( )
2 = add i32 ( 0 0 )
4 = sext i64 ( 0 )
switch 4 ( 1 2 ) 3 ( 2 ) 4 ( ) 3 ( 0 )
block 3 ( 3 )
return ( 3 )
block 4 ( )
jump 3 ( 0 )
`)
	g := m.Funcs[0]
	f := verify.CloneFunc(g)
	f.Blocks = f.Blocks[:4]
	f.Regs = f.Regs[:2]
	f.Blocks[0].Instrs = append(f.Blocks[0].Instrs, api.Instr{Op: api.OpCopy, Type: api.I32, Dst: 0, Args: []int{0}})
	f.Blocks[0].Term = api.Terminator{Kind: api.Jump, Succs: []api.Edge{{Block: 1}}}
	f.Blocks[2] = f.Blocks[1]
	f.Blocks[3] = f.Blocks[1]
	expectIdentity(t, "fewer blocks and registers", f, g, nil, api.Witness{
		CutPoints: []api.CutPoint{{}, {Target: 2, Source: 2}, {Target: 3, Source: 3}},
		Paths:     []api.Path{along(0, 1, 0), along(1, 2, 0), along(1, 2, 2), along(2, -1, -1)},
	})
	expectIdentity(t, "more blocks and registers", g, f, nil, api.Witness{
		CutPoints: []api.CutPoint{{}, {Target: 1, Source: 1}},
		Paths:     []api.Path{along(0, 1, 0), along(1, -1, -1)},
	})
	expectIdentity(t, "both", g, g, nil, api.Witness{
		CutPoints: []api.CutPoint{{}, {Target: 2, Source: 2, Invariants: same(0)}, {Target: 3, Source: 3, Invariants: same(3)}, {Target: 4, Source: 4, Invariants: same(0)}},
		Paths:     []api.Path{along(0, 1, 0), along(0, 3, 1), along(1, 2, 0), along(1, 3, 1), along(1, 2, 2), along(2, -1, -1), along(3, 2, 0)},
	})
}

// identity is Identity as the document defines it.
func identity(src, dst api.Func, extra []api.Invariant) api.Witness {
	var w api.Witness
	var blocks, regs []int
	for r := range dst.Regs {
		regs = append(regs, r)
	}
	for b := range dst.Blocks {
		if reached(dst, -1)[b] && b < len(src.Blocks) {
			blocks = append(blocks, b)
		}
	}
	w.CutPoints = cutPoints(src, dst, blocks, blocks, regs, extra)
	for i, b := range blocks {
		for succ, edge := range dst.Blocks[b].Term.Succs {
			if end := slices.Index(blocks, edge.Block); end >= 0 {
				w.Paths = append(w.Paths, along(i, end, succ))
			}
		}
		if len(dst.Blocks[b].Term.Succs) == 0 {
			w.Paths = append(w.Paths, along(i, -1, -1))
		}
	}
	return w
}

// P24.3: by the definition
func TestRandomIdentities(t *testing.T) {
	r := rand.New(rand.NewSource(5))
	all := someModules(t, 100)
	for _, m := range all {
		src, dst, extra := m.Funcs[0], all[r.Intn(len(all))].Funcs[0], randomExtra(r, m.Funcs[0])
		if got, want := witness.Identity(src, dst, extra), identity(src, dst, extra); !witness.Equal(got, want) {
			t.Fatalf("%+v, want\n%+v\n%+v\n%+v", got, want, src, dst)
		}
		if got, want := witness.Identity(src, src, nil), identity(src, src, nil); !witness.Equal(got, want) {
			t.Fatalf("%+v, want\n%+v\n%+v", got, want, src)
		}
	}
}

// P24.5
func TestIdentityIsWellFormed(t *testing.T) {
	told := 0
	for i, m := range someModules(t, 200) {
		if i%2 == 1 {
			continue // it is not in SSA form
		}
		f := m.Funcs[0]
		w := witness.Identity(f, f, nil)
		expectCheck(t, "a random function", m, m, 0, w, api.OK)
		for _, p := range w.CutPoints {
			told += len(p.Invariants)
		}
		if again, err := witness.Decode(encode(t, w)); err != api.OK || !witness.Equal(again, w) {
			t.Errorf("%v\n%+v, want\n%+v", err, again, w)
		}
	}
	if told < 500 {
		t.Errorf("%d invariants", told)
	}
	src, dst := samples(t)
	for index := range src.Funcs {
		expectCheck(t, "the source", src, src, index, witness.Identity(src.Funcs[index], src.Funcs[index], nil), api.OK)
		expectCheck(t, "the target", dst, dst, index, witness.Identity(dst.Funcs[index], dst.Funcs[index], nil), api.OK)
	}
}

// wide returns a module whose function has some edges, and some blocks without successors. It is a chain of switches.
func wide(edges, returns int) api.Module {
	f := api.Func{Name: "f", Params: []int{0}, Regs: []api.Type{api.I32}, Blocks: make([]api.Block, 1)}
	for range returns {
		f.Blocks = append(f.Blocks, api.Block{Term: api.Terminator{Kind: api.Return}})
	}
	f.Blocks[0].Term = api.Terminator{Kind: api.Jump, Succs: []api.Edge{{Block: len(f.Blocks)}}}
	for made := 1; made < edges; {
		term := api.Terminator{Kind: api.Switch, Args: []int{0}}
		for i := range min(edges-made, api.MaxCases+1) {
			if i > 0 {
				term.Cases = append(term.Cases, int64(i))
			}
			made++
			term.Succs = append(term.Succs, api.Edge{Block: 1 + made%returns})
		}
		if made < edges {
			term.Succs[0].Block = len(f.Blocks) + 1
		}
		f.Blocks = append(f.Blocks, api.Block{Term: term})
	}
	return api.Module{Funcs: []api.Func{f}}
}

// P24.5: as many paths as there may be, and one more
func TestIdentityOfManyEdges(t *testing.T) {
	for _, returns := range []int{1, 5, 200} {
		for more := range 2 {
			m := wide(api.MaxPaths-returns+more, returns)
			w := witness.Identity(m.Funcs[0], m.Funcs[0], nil)
			if len(w.Paths) != api.MaxPaths+more {
				t.Errorf("%d returns: %d paths", returns, len(w.Paths))
			}
			want := []api.Errno{api.OK, api.ErrLimit}[more]
			expectCheck(t, "many edges", m, m, 0, w, want)
		}
	}
}

// P24.5: as many blocks and registers as there may be, most of which are live at most blocks
func TestIdentityOfALongChain(t *testing.T) {
	f := api.Func{Name: "f", Regs: make([]api.Type, api.MaxRegs), Blocks: make([]api.Block, api.MaxBlocks)}
	for r := range f.Regs {
		f.Regs[r] = api.I32
	}
	const each = api.MaxRegs / api.MaxBlocks / 2
	for i := range f.Blocks {
		b := &f.Blocks[i]
		for j := range each {
			b.Instrs = append(b.Instrs, api.Instr{Op: api.OpConst, Type: api.I32, Dst: i*each + j, Imm: int64(j)})
		}
		for j := range each {
			mirrored := (api.MaxBlocks-1-i)*each + j
			if i >= api.MaxBlocks/2 {
				b.Instrs = append(b.Instrs, api.Instr{Op: api.OpOutput, Dst: -1, Args: []int{mirrored}})
			}
		}
		b.Term = api.Terminator{Kind: api.Jump, Succs: []api.Edge{{Block: i + 1}}}
	}
	f.Blocks[api.MaxBlocks-1].Term = api.Terminator{Kind: api.Return}
	m := api.Module{Funcs: []api.Func{f}}
	w := witness.Identity(f, f, nil)
	expectCheck(t, "a long chain", m, m, 0, w, api.OK)
	if len(w.CutPoints) != api.MaxBlocks || len(w.CutPoints[api.MaxBlocks/2].Invariants) != api.MaxBlocks/2*each {
		t.Errorf("%d cut points, %d invariants at the middle", len(w.CutPoints), len(w.CutPoints[api.MaxBlocks/2].Invariants))
	}
}

package ssaform_test

import (
	"math/rand"
	"reflect"
	"slices"
	"testing"

	"burnish/api"
	"burnish/cfg"
	"burnish/interp"
	"burnish/ssaform"
	"burnish/value"
	"burnish/verify"
)

// P22.4
func TestCompact(t *testing.T) {
	got, want := ssaform.Compact(sample(t)), module(t, compactText).Funcs[0]
	if !verify.EqualFunc(got, want) {
		t.Errorf("%+v\nwant %+v", got, want)
	}
}

// P22.4: parameters come in the order of Writes, unreachable blocks may mention anything, and negative results stay.
func TestCompactOfAnInvalidFunction(t *testing.T) {
	f := api.Func{Name: ";", Params: []int{4, 2}, Result: 77, Regs: []api.Type{api.I8, api.I32, api.I64, 99, api.Bool, api.Ptr}, Blocks: []api.Block{
		{Params: []int{5}, Instrs: []api.Instr{{Op: 50, Dst: -7, Args: []int{2, 4, 5}, Imm: 3, Sym: 2, Elem: 6, NoWrap: true}, {Dst: 0}}, Term: jump(2, 0, 2)},
		{Params: []int{-1, 9}, Instrs: []api.Instr{{Dst: 1, Args: []int{88}}}, Term: jump(1, 2)},
		{Term: api.Terminator{Kind: 40, Args: []int{0, 0}, Cases: []int64{5, 5}, Sym: -1}},
	}}
	want := api.Func{Name: ";", Params: []int{0, 1}, Result: 77, Regs: []api.Type{api.Bool, api.I64, api.Ptr, api.I8}, Blocks: []api.Block{
		{Params: []int{2}, Instrs: []api.Instr{{Op: 50, Dst: -7, Args: []int{1, 0, 2}, Imm: 3, Sym: 2, Elem: 6, NoWrap: true}, {Dst: 3}}, Term: jump(1, 0, 1)},
		{Term: api.Terminator{Kind: 40, Args: []int{3, 3}, Cases: []int64{5, 5}, Sym: -1}},
	}}
	if got := ssaform.Compact(f); !verify.EqualFunc(got, want) {
		t.Errorf("%+v\nwant %+v", got, want)
	}
}

// P22.4
func TestCompactReturnsACopy(t *testing.T) {
	dead := block(jump(), write(2))
	foreign := function(block(jump(), write(3), read(3)), dead)
	negative := function(api.Block{Params: []int{-1}}, dead)
	for name, f := range map[string]api.Func{
		"no blocks":               {Params: []int{1}, Regs: make([]api.Type, 3)},
		"a wrong edge":            function(block(jump(), write(1)), block(jump(7))),
		"written twice":           function(block(jump(), write(1)), dead, dead),
		"read early":              function(block(jump(), read(1), write(1)), dead),
		"a number behind Regs":    foreign,
		"a negative parameter":    negative,
		"a number and no read":    function(block(jump(), write(9)), dead),
		"no registers, but a use": {Blocks: []api.Block{block(jump(), write(0))}},
		"more blocks than nodes":  {Regs: make([]api.Type, 3), Blocks: make([]api.Block, api.MaxNodes+1)},
	} {
		if got := ssaform.Compact(f); !verify.EqualFunc(got, f) {
			t.Errorf("%s: %+v", name, got)
		}
	}
}

// isCompact reports whether all blocks of f are reachable and its registers are written in ascending order, from 0 on.
func isCompact(f api.Func) bool {
	var written []int
	for _, p := range positionsOf(f) {
		written = append(written, cfg.Writes(f, p)...)
	}
	for i, r := range written {
		if r != i {
			return false
		}
	}
	return len(written) == len(f.Regs) && len(reached(f, -1)) == len(f.Blocks)
}

// keptBlocks returns f with a copy of each block that can be reached and no others, and with edges to their new numbers.
func keptBlocks(f api.Func) api.Func {
	f = verify.CloneFunc(f)
	number := map[int]int{}
	var kept []api.Block
	for i, b := range f.Blocks {
		if reached(f, -1)[i] {
			number[i] = len(kept)
			kept = append(kept, b)
		}
	}
	f.Blocks = kept
	for _, b := range kept {
		for i := range b.Term.Succs {
			b.Term.Succs[i].Block = number[b.Term.Succs[i].Block]
		}
	}
	return f
}

// isRenaming reports whether f becomes g if each register of f becomes the one that g
// writes in its place, which has the same type.
func isRenaming(f, g api.Func) bool {
	name := map[int]int{}
	for _, p := range positionsOf(f) {
		before, after := cfg.Writes(f, p), cfg.Writes(g, p)
		for i, r := range before {
			if i >= len(after) || after[i] >= len(g.Regs) || g.Regs[after[i]] != f.Regs[r] {
				return false
			}
			name[r] = after[i]
		}
	}
	rename := func(list []int) {
		for i, r := range list {
			list[i] = name[r]
		}
	}
	rename(f.Params)
	for _, b := range f.Blocks {
		rename(b.Params)
		for i := range b.Instrs {
			in := &b.Instrs[i]
			rename(in.Args)
			if in.Dst >= 0 {
				in.Dst = name[in.Dst]
			}
		}
		rename(b.Term.Args)
		for _, e := range b.Term.Succs {
			rename(e.Args)
		}
	}
	f.Regs = g.Regs
	return verify.EqualFunc(f, g)
}

// isForeign reports whether f reads or writes in a block that can be reached what is no register.
func isForeign(f api.Func) bool {
	return slices.ContainsFunc(positionsOf(f), func(p api.Pos) bool {
		numbers := append(cfg.Writes(f, p), cfg.Reads(f, p)...)
		return reached(f, -1)[p.Block] && slices.ContainsFunc(numbers, func(r int) bool { return r < 0 || r >= len(f.Regs) })
	})
}

// P22.4 and P22.5
func TestCompactOfRandomFunctions(t *testing.T) {
	compact, copies := 0, 0
	for _, f := range someFuncs(t) {
		g := ssaform.Compact(f)
		if !ssaform.IsSSA(f) || isForeign(f) {
			copies++
			if !verify.EqualFunc(g, f) {
				t.Fatalf("%+v\nhas become %+v", f, g)
			}
			continue
		}
		compact++
		if !isCompact(g) || !isRenaming(keptBlocks(f), g) || !ssaform.IsSSA(g) {
			t.Fatalf("%+v\nhas become %+v", f, g)
		}
		if again := ssaform.Compact(g); !verify.EqualFunc(again, g) {
			t.Fatalf("%+v\nhas become %+v", g, again)
		}
	}
	if compact < 100 || copies < 100 {
		t.Errorf("%d functions and %d copies", compact, copies)
	}
}

// P22.5: outcomes stay the same, steps included.
func TestCompactPreservesOutcomes(t *testing.T) {
	r := rand.New(rand.NewSource(9))
	kinds := map[int]int{}
	modules := []api.Module{module(t, sampleText)}
	for range 60 {
		modules = append(modules, api.Module{Funcs: []api.Func{randomSSA(r)}})
	}
	for _, m := range modules {
		changed := verify.Clone(m)
		changed.Funcs[0] = ssaform.Compact(m.Funcs[0])
		if d := verify.Module(m); d != (api.Diagnostic{}) {
			t.Fatalf("%+v\n%+v", d, m)
		}
		if d := verify.Module(changed); d != (api.Diagnostic{}) {
			t.Fatalf("%+v\n%+v", d, changed)
		}
		for n := range 8 {
			var in api.Input
			for i := range m.Funcs[0].Params {
				in.Args = append(in.Args, value.Int(api.I32, int64(n*(i+1)-2)))
			}
			lim := api.Limits{Steps: 10 + 30*(n%2), Frames: 1}
			want, got := interp.Run(m, 0, in, lim), interp.Run(changed, 0, in, lim)
			if !reflect.DeepEqual(got, want) {
				t.Fatalf("%+v, want %+v\n%+v", got, want, m)
			}
			kinds[want.Kind]++
		}
	}
	if kinds[api.Returned] < 50 || kinds[api.Exhausted] < 50 {
		t.Errorf("the runs end in these ways: %v", kinds)
	}
}

// Rule 4: what becomes of an answer does not reach the function, nor another list of the answer.
func TestCompactReturnsNewMemory(t *testing.T) {
	for _, f := range someFuncs(t) {
		given := verify.CloneFunc(f)
		g, want := ssaform.Compact(f), ssaform.Compact(f)
		overwrite(&g)
		if !verify.EqualFunc(f, given) {
			t.Fatalf("%+v has become %+v", given, f)
		}
		if len(g.Params) != len(want.Params) || len(g.Blocks) != len(want.Blocks) || !verify.EqualFunc(ssaform.Compact(f), want) {
			t.Fatalf("%+v has become %+v", want, g)
		}
	}
}

// overwrite changes all numbers of f, and what is behind its lists.
func overwrite(f *api.Func) {
	fill := func(lists ...[]int) {
		for _, list := range lists {
			for i := range list[:cap(list)] {
				list[:cap(list)][i] = 77
			}
		}
	}
	fill(f.Params)
	for i := range f.Regs[:cap(f.Regs)] {
		f.Regs[:cap(f.Regs)][i] = 77
	}
	for i := range f.Blocks {
		b := &f.Blocks[i]
		fill(b.Params, b.Term.Args)
		for j := range b.Instrs {
			fill(b.Instrs[j].Args)
			b.Instrs[j] = api.Instr{}
		}
		for j := range b.Term.Succs {
			fill(b.Term.Succs[j].Args)
			b.Term.Succs[j] = api.Edge{Block: 77}
		}
	}
}

package cfg_test

import (
	"math"
	"slices"
	"testing"

	"burnish/api"
	"burnish/cfg"
	"burnish/verify"
)

func equal[T comparable](a, b [][]T) bool {
	return slices.EqualFunc(a, b, slices.Equal[[]T])
}

// P20.1, and example 1
func TestGraph(t *testing.T) {
	for name, x := range map[string]struct {
		f    api.Func
		want [][]int
	}{
		"no blocks":   {api.Func{Regs: []api.Type{api.I8}}, nil},
		"the sample":  {sample(t), [][]int{{1, 1}, {2, 4, 3}, {}, {1, 5}, {}, {}, {6}}},
		"a return":    {sampleModule(t).Funcs[1], [][]int{{}}},
		"not valid":   {invalid(), [][]int{{0, -1, 88}, {}}},
		"no such":     {api.Func{Blocks: []api.Block{{Term: api.Terminator{Succs: []api.Edge{{Block: math.MinInt}, {Block: math.MaxInt}}}}}}, [][]int{{math.MinInt, math.MaxInt}}},
		"all to one":  {api.Func{Blocks: []api.Block{{}, {Term: api.Terminator{Succs: []api.Edge{{Block: 1}, {Block: 0}, {Block: 1}, {Block: 1}}}}}}, [][]int{{}, {1, 0, 1, 1}}},
		"many blocks": {api.Func{Blocks: make([]api.Block, api.MaxNodes+1)}, make([][]int, api.MaxNodes+1)},
	} {
		if got := cfg.Graph(x.f); !equal(got.Succs, x.want) {
			t.Errorf("%s: %v, want %v", name, got.Succs, x.want)
		}
	}
}

func expectPositions(t *testing.T, f api.Func, all []position) {
	t.Helper()
	for _, p := range all {
		at := api.Pos{Block: p.block, Index: p.index}
		if got := cfg.Reads(f, at); !slices.Equal(got, p.reads) {
			t.Errorf("Reads at %v: %v, want %v", at, got, p.reads)
		}
		if got := cfg.Writes(f, at); !slices.Equal(got, p.writes) {
			t.Errorf("Writes at %v: %v, want %v", at, got, p.writes)
		}
	}
	if len(all) != verify.Size(f)+len(f.Blocks) {
		t.Errorf("%d positions", len(all))
	}
}

// P20.3, and example 2
func TestReadsAndWrites(t *testing.T) {
	expectPositions(t, sample(t), samplePositions())
	expectPositions(t, invalid(), invalidPositions())
	expectPositions(t, api.Func{Params: []int{3}}, nil)
	noParams := api.Func{Blocks: []api.Block{{}, {Params: []int{0}}}}
	expectPositions(t, noParams, []position{{0, -1, nil, nil}, {0, 0, nil, nil}, {1, -1, nil, []int{0}}, {1, 0, nil, nil}})
}

// P20.3
func TestPositionsOutside(t *testing.T) {
	for i, f := range someFuncs(t) {
		for _, block := range []int{math.MinInt, -2, -1, 0, 1, len(f.Blocks) - 1, len(f.Blocks), len(f.Blocks) + 1, math.MaxInt} {
			indices := []int{math.MinInt, -3, -2, -1, 0, 1, 5, math.MaxInt}
			if block >= 0 && block < len(f.Blocks) {
				n := len(f.Blocks[block].Instrs)
				indices = []int{math.MinInt, -3, -2, n + 1, n + 2, math.MaxInt}
			}
			for _, index := range indices {
				at := api.Pos{Block: block, Index: index}
				if reads, writes := cfg.Reads(f, at), cfg.Writes(f, at); len(reads) > 0 || len(writes) > 0 {
					t.Errorf("function %d at %v: Reads %v, Writes %v", i, at, reads, writes)
				}
			}
		}
	}
}

// P20.4, and example 2
func TestDefsAndUses(t *testing.T) {
	f := sample(t)
	if got := cfg.Defs(f); !equal(got, sampleDefs()) {
		t.Errorf("Defs %v", got)
	}
	if got := cfg.Uses(f); !equal(got, sampleUses()) {
		t.Errorf("Uses %v", got)
	}
	f = invalid()
	if got := cfg.Defs(f); !equal(got, [][]api.Pos{{{Block: 0, Index: -1}, {Block: 1, Index: -1}}, {{Block: 0, Index: -1}, {Block: 0, Index: 0}}, {{Block: 0, Index: -1}}}) {
		t.Errorf("Defs of the invalid function %v", got)
	}
	if got := cfg.Uses(f); !equal(got, [][]api.Pos{{{Block: 0, Index: 1}}, {{Block: 0, Index: 3}}, {{Block: 0, Index: 0}, {Block: 0, Index: 3}}}) {
		t.Errorf("Uses of the invalid function %v", got)
	}
	f.Regs = nil
	if defs, uses := cfg.Defs(f), cfg.Uses(f); len(defs)+len(uses) > 0 {
		t.Errorf("no registers: Defs %v, Uses %v", defs, uses)
	}
	f = api.Func{Params: []int{0}, Regs: make([]api.Type, 3)}
	if defs, uses := cfg.Defs(f), cfg.Uses(f); !equal(defs, make([][]api.Pos, 3)) || !equal(uses, make([][]api.Pos, 3)) {
		t.Errorf("no blocks: Defs %v, Uses %v", defs, uses)
	}
}

// positionsOf returns the positions of f, in order.
func positionsOf(f api.Func) []api.Pos {
	var all []api.Pos
	for i, b := range f.Blocks {
		for j := -1; j <= len(b.Instrs); j++ {
			all = append(all, api.Pos{Block: i, Index: j})
		}
	}
	return all
}

// P20.4: by the definition
func TestDefsAndUsesOfRandomFunctions(t *testing.T) {
	for _, f := range someFuncs(t) {
		defs, uses := make([][]api.Pos, len(f.Regs)), make([][]api.Pos, len(f.Regs))
		for r := range f.Regs {
			for _, at := range positionsOf(f) {
				if slices.Contains(cfg.Writes(f, at), r) {
					defs[r] = append(defs[r], at)
				}
				if slices.Contains(cfg.Reads(f, at), r) {
					uses[r] = append(uses[r], at)
				}
			}
		}
		if got := cfg.Defs(f); !equal(got, defs) {
			t.Fatalf("Defs %v, want %v\n%+v", got, defs, f)
		}
		if got := cfg.Uses(f); !equal(got, uses) {
			t.Fatalf("Uses %v, want %v\n%+v", got, uses, f)
		}
	}
}

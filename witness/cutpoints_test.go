package witness_test

import (
	"math"
	"math/rand"
	"slices"
	"testing"

	"burnish/api"
	"burnish/expr"
	"burnish/liveness"
	"burnish/verify"
	"burnish/witness"
)

// expectCutPoints checks a list of cut points.
func expectCutPoints(t *testing.T, name string, got []api.CutPoint, want ...api.CutPoint) {
	t.Helper()
	if !witness.Equal(api.Witness{CutPoints: got}, api.Witness{CutPoints: want}) {
		t.Errorf("%s:\n%+v, want\n%+v", name, got, want)
	}
}

// expectInvariants checks the invariants of a cut point of the samples.
func expectInvariants(t *testing.T, name string, target, source int, regs []int, extra []api.Invariant, want ...api.Invariant) {
	t.Helper()
	src, dst := samples(t)
	got := witness.CutPoints(src.Funcs[fn], dst.Funcs[fn], []int{target}, []int{source}, regs, extra)
	expectCutPoints(t, name, got, api.CutPoint{Target: target, Source: source, Invariants: want})
}

// counterparts returns the register of the sample's source for each one of the target.
func counterparts() []int {
	return []int{5, 4, 1, 7, 0, 2, 3, -1, 6}
}

// P24.3
func TestCutPoints(t *testing.T) {
	ptr, step, limit, sum := holds(0, expr.Reg(5)), holds(2, expr.Reg(1)), holds(4, expr.Reg(0)), holds(6, expr.Reg(3))
	src, dst := samples(t)
	got := witness.CutPoints(src.Funcs[fn], dst.Funcs[fn], []int{2, 0, 1, 2}, []int{1, 0, 3, 2}, counterparts(), nil)
	all := []api.Invariant{ptr, step, limit, sum}
	expectCutPoints(t, "in the order of the blocks", got, api.CutPoint{Target: 2, Source: 1, Invariants: all}, api.CutPoint{}, api.CutPoint{Target: 1, Source: 3, Invariants: []api.Invariant{sum}}, api.CutPoint{Target: 2, Source: 2, Invariants: all})
	for name, x := range map[string]struct {
		target, source int
		regs           []int
		want           []api.Invariant
	}{
		"live registers and parameters": {2, 1, counterparts(), all},
		"live registers":                {3, 1, counterparts(), all},
		"one live register":             {1, 2, counterparts(), []api.Invariant{sum}},
		"the last block of the source":  {2, 3, counterparts(), all},
		"available in no block":         {2, 4, counterparts(), nil},
		"parameters of the function":    {2, 0, counterparts(), []api.Invariant{step, limit}},
		"not live":                      {5, 3, counterparts(), nil},
		"the first block":               {0, 1, counterparts(), nil},
		"few registers":                 {2, 1, []int{5, 4, 1}, []api.Invariant{ptr, step}},
		"no registers":                  {2, 1, nil, nil},
		"more registers than there are": {2, 1, append(counterparts(), 3, 3, 3, 3), all},
		"no registers of the source":    {2, 1, []int{-1, 8, math.MinInt, 0, math.MaxInt, 0, 3}, []api.Invariant{sum}},
		"registers of other types":      {2, 1, []int{0, 0, 5, 0, 4, 0, 7}, nil},
		"one register for all":          {4, 1, slices.Repeat([]int{1}, 10), []api.Invariant{step, holds(4, expr.Reg(1)), holds(7, expr.Reg(1))}},
		"not available at its own":      {5, 2, slices.Repeat([]int{6}, 10), nil},
		"not available behind its own":  {5, 3, slices.Repeat([]int{6}, 10), nil},
		"available from the first on":   {5, 3, slices.Repeat([]int{2}, 10), []api.Invariant{holds(7, expr.Reg(2))}},
		"of a block nothing leads to":   {5, 3, slices.Repeat([]int{7}, 10), nil},
	} {
		expectInvariants(t, name, x.target, x.source, x.regs, nil, x.want...)
	}
}

// P24.3
func TestBlocksThatAreNotThere(t *testing.T) {
	src, dst := samples(t)
	f, g := src.Funcs[fn], dst.Funcs[fn]
	for name, x := range map[string]struct{ target, source []int }{
		"more targets": {[]int{0, 1}, []int{0}}, "more sources": {nil, []int{0}}, "no target": {[]int{0, 6}, []int{0, 1}}, "no source": {[]int{0, 5}, []int{0, 5}},
		"a negative target": {[]int{-1}, []int{0}}, "a negative source": {[]int{0, 0}, []int{0, -1}}, "far away": {[]int{math.MaxInt}, []int{math.MinInt}},
		"no block for the first": {[]int{6, 0}, []int{0, 0}},
	} {
		if got := witness.CutPoints(f, g, x.target, x.source, counterparts(), nil); got != nil {
			t.Errorf("%s: %+v", name, got)
		}
	}
	if got := witness.CutPoints(f, g, nil, []int{}, counterparts(), nil); len(got) != 0 {
		t.Errorf("no blocks: %+v", got)
	}
	expectCutPoints(t, "the last blocks", witness.CutPoints(f, g, []int{5}, []int{4}, nil, nil), api.CutPoint{Target: 5, Source: 4})
}

// P24.3
func TestExtraInvariants(t *testing.T) {
	zero, sum := expr.Const(api.I32, 0), expr.Apply(api.OpAdd, api.I32, expr.Reg(1), expr.Reg(3))
	needsSix := expr.Apply(api.OpAdd, api.I32, expr.Reg(3), expr.Reg(6))
	late, odd := holds(6, needsSix), api.Invariant{Exact: true, Reg: 2, Expr: zero}
	copies := []api.Invariant{holds(0, expr.Reg(5)), holds(2, expr.Reg(1)), holds(4, expr.Reg(0)), holds(6, expr.Reg(3))}
	with := func(i int, inv api.Invariant, more ...api.Invariant) []api.Invariant {
		list := append(slices.Clone(copies), more...)
		list[i] = inv
		return list
	}
	for name, x := range map[string]struct{ extra, want []api.Invariant }{
		"instead of a copy":                 {[]api.Invariant{holds(0, global(0))}, with(0, holds(0, global(0)))},
		"the first one":                     {[]api.Invariant{holds(4, zero), holds(4, sum)}, with(2, holds(4, zero))},
		"the first available one":           {[]api.Invariant{late, holds(6, sum), holds(6, zero)}, with(3, holds(6, sum))},
		"none is available":                 {[]api.Invariant{late, holds(6, expr.Reg(7)), holds(6, expr.Reg(99)), holds(6, expr.Reg(-1))}, copies},
		"of a register that is not live":    {[]api.Invariant{holds(7, zero), holds(5, zero)}, copies},
		"of no register":                    {[]api.Invariant{holds(-1, zero), holds(10, zero), holds(math.MaxInt, zero)}, copies},
		"which is not well-formed":          {[]api.Invariant{odd, holds(0, nil)}, []api.Invariant{holds(0, nil), odd, copies[2], copies[3]}},
		"of the source":                     {[]api.Invariant{ofSource(3, zero), exactly(0, sum), ofSource(5, global(1))}, append(slices.Clone(copies), ofSource(3, zero), exactly(0, sum), ofSource(5, global(1)))},
		"of the source, one more than once": {[]api.Invariant{ofSource(3, zero), exactly(0, sum), exactly(3, sum), ofSource(0, nil)}, append(slices.Clone(copies), ofSource(3, zero), exactly(0, sum))},
		"of what is not available":          {[]api.Invariant{ofSource(6, zero), ofSource(4, zero), ofSource(7, zero), ofSource(8, zero), ofSource(-1, zero)}, copies},
		"by what is not available":          {[]api.Invariant{ofSource(3, needsSix), ofSource(3, sum), ofSource(1, expr.Reg(4))}, append(slices.Clone(copies), ofSource(3, sum))},
		"of the same number":                {[]api.Invariant{ofSource(2, sum), holds(2, zero), ofSource(4, zero), holds(4, sum)}, []api.Invariant{copies[0], holds(2, zero), holds(4, sum), copies[3], ofSource(2, sum)}},
		"with a type beside a register":     {[]api.Invariant{holds(4, []api.ExprNode{{Op: api.OpCopy, Type: api.I32, N: 6}})}, copies},
	} {
		expectInvariants(t, name, 2, 1, counterparts(), x.extra, x.want...)
	}
	expectInvariants(t, "the same source, one block on", 2, 3, counterparts(), []api.Invariant{ofSource(4, zero), late}, append(slices.Clone(copies), ofSource(4, zero))...)
	expectInvariants(t, "where nothing is available", 2, 4, counterparts(), []api.Invariant{holds(6, sum), holds(0, global(0)), ofSource(0, zero), holds(6, zero)}, holds(0, global(0)), holds(6, zero))
	expectInvariants(t, "at the first block of the target", 0, 1, counterparts(), []api.Invariant{holds(4, zero), ofSource(3, zero)}, ofSource(3, zero))
	expectInvariants(t, "at the first block of the source", 2, 0, nil, []api.Invariant{holds(6, expr.Reg(3)), holds(4, expr.Reg(0)), ofSource(2, zero), ofSource(1, expr.Reg(0))}, holds(4, expr.Reg(0)), ofSource(1, expr.Reg(0)))
	expectInvariants(t, "at both", 0, 0, counterparts(), []api.Invariant{holds(4, zero), ofSource(0, zero)})
}

// invariants returns the invariants of a cut point, as the document defines them.
func invariants(src, dst api.Func, target, source int, regs []int, extra []api.Invariant) []api.Invariant {
	missing := func(r int) bool { return !isAvailable(src, r, source) }
	var list []api.Invariant
	for r := range dst.Regs {
		if !liveness.In(dst)[target][r] && !slices.Contains(dst.Blocks[target].Params, r) {
			continue
		}
		first := slices.IndexFunc(extra, func(inv api.Invariant) bool {
			return !inv.OfSource && inv.Reg == r && !slices.ContainsFunc(expr.Regs(inv.Expr), missing)
		})
		switch {
		case first >= 0:
			list = append(list, extra[first])
		case r < len(regs) && !missing(regs[r]) && src.Regs[regs[r]] == dst.Regs[r]:
			list = append(list, holds(r, expr.Reg(regs[r])))
		}
	}
	var told []int
	for _, inv := range extra {
		if inv.OfSource && !missing(inv.Reg) && !slices.ContainsFunc(expr.Regs(inv.Expr), missing) && !slices.Contains(told, inv.Reg) {
			told = append(told, inv.Reg)
			list = append(list, inv)
		}
	}
	return list
}

// cutPoints returns what CutPoints returns for blocks that are there.
func cutPoints(src, dst api.Func, target, source, regs []int, extra []api.Invariant) []api.CutPoint {
	var list []api.CutPoint
	for i := range target {
		p := api.CutPoint{Target: target[i], Source: source[i]}
		if p.Target != 0 || p.Source != 0 {
			p.Invariants = invariants(src, dst, p.Target, p.Source, regs, extra)
		}
		list = append(list, p)
	}
	return list
}

// randomExtra returns invariants of all sorts, many of them about what block 0 of src writes.
func randomExtra(r *rand.Rand, src api.Func) []api.Invariant {
	early := slices.Clone(src.Params)
	for _, in := range src.Blocks[0].Instrs {
		early = append(early, in.Dst)
	}
	someReg := func() int {
		if r.Intn(2) == 0 {
			return early[r.Intn(len(early))]
		}
		return r.Intn(registers+2) - 1
	}
	var list []api.Invariant
	for range r.Intn(60) {
		e := expr.Const(api.I32, 3)
		for range r.Intn(3) {
			e = append(e, expr.Reg(someReg())...)
		}
		list = append(list, api.Invariant{OfSource: r.Intn(2) == 0, Exact: r.Intn(2) == 0, Reg: someReg(), Expr: e})
	}
	return list
}

// randomRegs returns a list of registers, many of them those with the number of the index.
func randomRegs(r *rand.Rand) []int {
	list := make([]int, registers-5+r.Intn(10))
	for i := range list {
		list[i] = i
		if r.Intn(4) == 0 {
			list[i] = r.Intn(registers+4) - 2
		}
	}
	return list
}

// randomBlocks returns n blocks of a function.
func randomBlocks(r *rand.Rand, f api.Func, n int) []int {
	list := make([]int, n)
	for i := range list {
		list[i] = r.Intn(len(f.Blocks))
	}
	return list
}

// P24.3: by the definition
func TestRandomCutPoints(t *testing.T) {
	r := rand.New(rand.NewSource(3))
	all := someModules(t, 150)
	found := [2][2]int{} // of the target or the source, a copy or not
	for _, m := range all {
		src, dst := m.Funcs[0], all[r.Intn(len(all))].Funcs[0]
		if r.Intn(3) > 0 {
			dst = src
		}
		regs, extra, n := randomRegs(r), randomExtra(r, src), r.Intn(8)
		target, source := randomBlocks(r, dst, n), randomBlocks(r, src, n)
		got, want := witness.CutPoints(src, dst, target, source, regs, extra), cutPoints(src, dst, target, source, regs, extra)
		if !witness.Equal(api.Witness{CutPoints: got}, api.Witness{CutPoints: want}) {
			t.Fatalf("%v and %v, with %v and %+v:\n%+v, want\n%+v\n%+v\n%+v", target, source, regs, extra, got, want, src, dst)
		}
		for _, p := range got {
			for _, inv := range p.Invariants {
				found[index(inv.OfSource)][index(len(inv.Expr) == 1)]++
			}
		}
	}
	for _, counts := range found {
		if counts[0] < 100 || counts[1] < 100 {
			t.Errorf("%v invariants", found)
		}
	}
}

func index(flag bool) int {
	if flag {
		return 1
	}
	return 0
}

// DOC.md, Rules 4 and 5
func TestCutPointsChangesNothing(t *testing.T) {
	r := rand.New(rand.NewSource(4))
	for _, m := range someModules(t, 20) {
		f, extra, regs := m.Funcs[0], randomExtra(r, m.Funcs[0]), randomRegs(r)
		target, source := randomBlocks(r, f, 5), randomBlocks(r, f, 5)
		given := api.Witness{CutPoints: []api.CutPoint{{Invariants: extra}}, Paths: []api.Path{path(0, 0, target, source), path(0, 0, regs, nil)}}
		b := encodeAll(given)
		g := verify.CloneFunc(f)
		first := witness.CutPoints(f, g, target, source, regs, extra)
		second := witness.CutPoints(f, g, target, source, regs, extra)
		identity := witness.Identity(f, g, extra)
		if !slices.Equal(b, encodeAll(given)) || !verify.EqualFunc(f, g) || !witness.Equal(api.Witness{CutPoints: first}, api.Witness{CutPoints: second}) || !witness.Equal(identity, witness.Identity(f, g, extra)) {
			t.Errorf("%+v", given)
		}
	}
}

// encodeAll returns the numbers of a witness in which nothing is too long.
func encodeAll(w api.Witness) []byte {
	b, _ := witness.Encode(w)
	return b
}

// DOC.md, Rule 1
func TestFunctionsThatAreNotValid(t *testing.T) {
	src, dst := samples(t)
	all := append(oddFuncs(), src.Funcs[fn], dst.Funcs[fn])
	extra := []api.Invariant{holds(1, expr.Reg(1)), ofSource(1, expr.Reg(3)), holds(-1, nil), ofSource(99, nil), ofSource(-5, expr.Reg(-5)), holds(2, expr.Reg(math.MaxInt))}
	for _, f := range all {
		for _, g := range all {
			for target := -1; target <= len(g.Blocks); target++ {
				for source := -1; source <= len(f.Blocks); source++ {
					got := witness.CutPoints(f, g, []int{target}, []int{source}, []int{3, 2, 1, 0, -1, 99}, extra)
					if areBlocks := target >= 0 && target < len(g.Blocks) && source >= 0 && source < len(f.Blocks); areBlocks != (len(got) == 1) {
						t.Errorf("%d and %d: %+v", target, source, got)
					}
				}
			}
			witness.Identity(f, g, extra)
			m := api.Module{Funcs: []api.Func{f}}
			if verify.Module(m) != (api.Diagnostic{}) {
				expectCheck(t, "no valid module", m, m, 0, witness.Identity(f, g, extra), api.ErrArg)
			}
		}
	}
}

package ssaform_test

import (
	"math"
	"math/rand"
	"slices"
	"testing"

	"burnish/api"
	"burnish/cfg"
	"burnish/ssaform"
	"burnish/verify"
)

func at(block, index int) api.Pos {
	return api.Pos{Block: block, Index: index}
}

func expectCheck(t *testing.T, name string, f api.Func, want api.Pos, code api.Errno) {
	t.Helper()
	if got, err := ssaform.Check(f); got != want || err != code {
		t.Errorf("%s: Check %v, %v, want %v, %v", name, got, err, want, code)
	}
	if got := ssaform.IsSSA(f); got != (code == api.OK) {
		t.Errorf("%s: IsSSA %v", name, got)
	}
}

// block returns a block that ends with a terminator.
func block(term api.Terminator, instrs ...api.Instr) api.Block {
	return api.Block{Instrs: instrs, Term: term}
}

// P22.2: the examples
func TestExamples(t *testing.T) {
	twice := function(block(jump(), write(1), write(1)))
	expectCheck(t, "example 1", twice, at(0, 1), api.ErrDup)
	other := function(block(jump(1, 2)), block(jump(), write(1)), block(jump(), read(1)))
	expectCheck(t, "example 2", other, at(2, 0), api.ErrDominance)
}

// P22.2
func TestFunctionsThatAreNoGraphs(t *testing.T) {
	dup := block(jump(), write(0), write(0), read(1))
	for name, f := range map[string]api.Func{
		"nothing":                    {},
		"no blocks":                  {Params: []int{0, 0}, Regs: make([]api.Type, 1)},
		"an edge behind the last":    function(dup, block(jump(1, 2))),
		"an edge to -1":              function(block(jump(-1))),
		"an edge to the greatest":    function(block(jump(0, math.MaxInt))),
		"an edge to the least":       function(block(jump(math.MinInt))),
		"an edge of no reached one":  function(block(jump()), block(jump()), block(jump(3))),
		"more blocks than MaxNodes":  {Blocks: make([]api.Block, api.MaxNodes+1)},
		"far more, and an edge back": {Blocks: append(make([]api.Block, 2*api.MaxNodes), block(jump(0)))},
	} {
		expectCheck(t, name, f, api.Pos{}, api.ErrFormat)
	}
	expectCheck(t, "MaxNodes blocks", api.Func{Blocks: make([]api.Block, api.MaxNodes)}, api.Pos{}, api.OK)
}

// P22.2
func TestRegistersThatAreWrittenTwice(t *testing.T) {
	withParams := func(f api.Func, params ...int) api.Func {
		f.Params = params
		return f
	}
	params := func(registers ...int) api.Block {
		return api.Block{Params: registers, Instrs: []api.Instr{write(9, 8)}}
	}
	for name, x := range map[string]struct {
		f    api.Func
		want api.Pos
	}{
		"parameters of the function":      {withParams(function(block(jump())), 2, 1, 2), at(0, -1)},
		"parameters of the function's 0":  {withParams(function(params(1)), 2, 1), at(0, -1)},
		"parameters of block 0":           {function(params(1, 1)), at(0, -1)},
		"parameters of block 1":           {function(block(jump(1)), params(0, 1, 0)), at(1, -1)},
		"parameters of two blocks":        {function(block(jump(1)), params(0), block(jump()), params(0)), at(3, -1)},
		"a parameter and an instruction":  {withParams(function(block(jump(), write(0), write(1))), 1), at(0, 1)},
		"an instruction and a parameter":  {function(block(jump(1), write(9)), params(9)), at(1, -1)},
		"its own operand":                 {withParams(function(block(jump(), write(0, 0))), 0), at(0, 0)},
		"two blocks, out of order":        {function(block(jump(2)), block(jump(), write(0)), block(jump(1), write(0))), at(2, 0)},
		"blocks that nothing reaches":     {function(block(jump()), block(jump(), write(0)), block(jump(), write(1), write(0))), at(2, 1)},
		"an early read comes second":      {function(block(jump(), read(2), write(0), write(0))), at(0, 2)},
		"a number that is no register":    {function(block(jump(), write(3), write(4), write(3))), at(0, 2)},
		"the greatest number":             {function(block(jump(), write(math.MaxInt), write(math.MaxInt))), at(0, 1)},
		"a negative number, as parameter": {withParams(function(block(jump())), -1, -1), at(0, -1)},
		"the least number":                {withParams(function(params(math.MinInt)), math.MinInt), at(0, -1)},
	} {
		expectCheck(t, name, x.f, x.want, api.ErrDup)
	}
	noResults := function(block(jump(), read(), read(), write(-2), write(-2)))
	expectCheck(t, "instructions without results", noResults, api.Pos{}, api.OK)
}

// edges returns a terminator with an operand and an edge that passes registers.
func edges(operand, target int, passed ...int) api.Terminator {
	return api.Terminator{Args: []int{operand}, Succs: []api.Edge{{Block: 0}, {Block: target, Args: passed}}}
}

// P22.2
func TestReadsWithoutDefinitions(t *testing.T) {
	loop := []api.Block{block(jump(1), write(0)), block(jump(2, 3), read(1)), block(jump(1), write(1)), block(jump())}
	diamond := []api.Block{block(jump(1, 2)), block(jump(3), write(0)), block(jump(3), write(1)), block(jump(), read(0))}
	passing := api.Block{Params: []int{1}, Term: edges(1, 1, 1)}
	for name, x := range map[string]struct {
		f    api.Func
		want api.Pos
	}{
		"never written":               {function(block(jump(), write(0), read(0, 1))), at(0, 1)},
		"written later":               {function(block(jump(), read(1), write(1))), at(0, 0)},
		"written at once":             {function(block(jump(), write(1, 1))), at(0, 0)},
		"around a loop":               {function(loop...), at(1, 0)},
		"behind one of two":           {function(diamond...), at(3, 0)},
		"the terminator's operand":    {function(block(edges(2, 0), write(0), write(1))), at(0, 2)},
		"the terminator's edges":      {function(block(edges(0, 0, 0, 1), write(0)), block(jump(), write(1))), at(0, 1)},
		"parameters of the target":    {function(block(edges(0, 1, 1), write(0)), passing), at(0, 1)},
		"written where none comes":    {function(block(jump(2)), block(jump(2), write(0)), block(jump(), read(0))), at(2, 0)},
		"a number that no one writes": {function(block(jump(), read(7))), at(0, 0)},
		"a negative number":           {function(block(jump(), read(-1), write(-1))), at(0, 0)},
		"the first of some":           {function(block(jump(2), write(0)), block(jump(), read(1)), block(jump(), read(2)), block(jump(), read(2))), at(2, 0)},
		"by position, not by paths":   {function(block(jump(2)), block(jump(), read(2)), block(jump(1), read(2))), at(1, 0)},
	} {
		expectCheck(t, name, x.f, x.want, api.ErrDominance)
	}
}

// P22.2
func TestFunctionsInSSAForm(t *testing.T) {
	unreached := function(block(jump()), block(jump(1), read(0, 9, -1), write(0, 0)))
	params := function(api.Block{Params: []int{-1, 7}, Instrs: []api.Instr{read(-1, 7, 0)}})
	params.Params = []int{0}
	backward := function(block(jump(2)), block(jump(), read(1)), block(jump(1), write(1)))
	for name, f := range map[string]api.Func{
		"the sample": sample(t), "the compact sample": module(t, compactText).Funcs[0], "reads where nothing comes": unreached,
		"numbers that are no registers": params, "a block that dominates an earlier one": backward, "a loop": function(block(jump(0))),
	} {
		expectCheck(t, name, f, api.Pos{}, api.OK)
	}
}

// P22.1
func TestPrecedes(t *testing.T) {
	f := sample(t)
	for _, x := range []struct {
		a, b api.Pos
		want bool
	}{
		{at(0, -1), at(0, 0), true}, {at(0, 0), at(0, -1), false}, {at(0, 0), at(0, 0), false}, {at(0, -1), at(0, 1), true},
		{at(0, 1), at(4, -1), true}, {at(0, 1), at(1, 0), true}, {at(4, 2), at(1, -1), true}, {at(4, 2), at(3, -1), true},
		{at(3, 2), at(4, -1), false}, {at(3, 0), at(1, 0), false}, {at(1, 0), at(3, 0), false}, {at(4, 0), at(0, 0), false},
		{at(2, -1), at(2, 0), false}, {at(0, 0), at(2, 0), false}, {at(2, 0), at(4, 0), false}, {at(5, 0), at(2, 0), false},
		{at(0, -2), at(0, 0), false}, {at(0, 0), at(0, 2), false}, {at(0, 0), at(1, 3), false}, {at(0, 3), at(1, 0), false},
		{at(-1, 0), at(0, 0), false}, {at(0, 0), at(6, 0), false}, {at(0, 0), at(-1, 0), false}, {at(6, -1), at(6, 0), false},
		{at(0, math.MinInt), at(0, 0), false}, {at(0, 0), at(0, math.MaxInt), false}, {at(math.MaxInt, 0), at(math.MaxInt, 1), false}, {at(math.MinInt, 0), at(0, 1), false},
	} {
		if got := ssaform.Precedes(f, x.a, x.b); got != x.want {
			t.Errorf("%v before %v: %v", x.a, x.b, got)
		}
	}
	for name, f := range map[string]api.Func{
		"no blocks": {}, "a wrong edge": function(block(jump(1)), block(jump(2))), "many blocks": {Blocks: make([]api.Block, api.MaxNodes+1)},
	} {
		if ssaform.Precedes(f, at(0, -1), at(0, 0)) || ssaform.Precedes(f, at(0, -1), at(1, 0)) {
			t.Errorf("%s: Precedes", name)
		}
	}
}

// P22.1 to P22.3: by the definitions
func TestRandomFunctions(t *testing.T) {
	codes := map[api.Errno]int{}
	for _, f := range someFuncs(t) {
		want, code := check(f)
		codes[code]++
		if got, err := ssaform.Check(f); got != want || err != code || ssaform.IsSSA(f) != (code == api.OK) {
			t.Fatalf("Check %v, %v, want %v, %v\n%+v", got, err, want, code, f)
		}
		first := ssaform.DefPos(f)
		for r := range f.Regs {
			def := slices.IndexFunc(positionsOf(f), func(p api.Pos) bool { return slices.Contains(cfg.Writes(f, p), r) })
			if want := append(positionsOf(f), at(-1, -1)); len(first) != len(f.Regs) || def < 0 && first[r] != at(-1, -1) || def >= 0 && first[r] != want[def] {
				t.Fatalf("DefPos %v\n%+v", first, f)
			}
		}
	}
	for _, code := range []api.Errno{api.OK, api.ErrFormat, api.ErrDup, api.ErrDominance} {
		if codes[code] < 20 {
			t.Errorf("%v: %d functions", code, codes[code])
		}
	}
}

// P22.1 and P22.5: by the definition, and with positions that are not in the function
func TestPrecedesIsTransitive(t *testing.T) {
	r := rand.New(rand.NewSource(5))
	for range 40 {
		f := randomSSA(r)
		if r.Intn(3) == 0 {
			f = damaged(r, f)
		}
		all := append(positionsOf(f), at(0, -2), at(len(f.Blocks), 0), at(-1, 0), at(0, len(f.Blocks[0].Instrs)+1))
		before := map[[2]api.Pos]bool{}
		for _, a := range all {
			for _, b := range all {
				got := ssaform.Precedes(f, a, b)
				if got != precedes(f, a, b) || got && a == b {
					t.Fatalf("%v before %v: %v\n%+v", a, b, got, f)
				}
				before[[2]api.Pos{a, b}] = got
			}
		}
		for _, a := range all {
			for _, b := range all {
				for _, c := range all {
					if before[[2]api.Pos{a, b}] && before[[2]api.Pos{b, c}] && !before[[2]api.Pos{a, c}] {
						t.Fatalf("%v, %v, %v\n%+v", a, b, c, f)
					}
				}
			}
		}
	}
}

// P22.3
func TestDefPos(t *testing.T) {
	nowhere := at(-1, -1)
	sampleDefs := []api.Pos{at(4, 1), at(1, -1), at(5, 0), at(0, -1), at(0, 0), at(4, 0), at(4, -1), at(4, -1), at(0, -1), nowhere, at(2, 0), at(3, 0)}
	twice := function(block(jump(), write(1), write(1, 0)), api.Block{Params: []int{1, 2, 2, -1, 3}})
	for name, x := range map[string]struct {
		f    api.Func
		want []api.Pos
	}{
		"the sample":     {sample(t), sampleDefs},
		"not in form":    {twice, []api.Pos{nowhere, at(0, 0), at(1, -1)}},
		"no blocks":      {api.Func{Params: []int{0}, Regs: make([]api.Type, 1)}, []api.Pos{nowhere}},
		"no registers":   {api.Func{Params: []int{0}, Blocks: twice.Blocks}, nil},
		"a wrong edge":   {function(block(jump(7), write(2))), []api.Pos{nowhere, nowhere, at(0, 0)}},
		"nothing at all": {api.Func{}, nil},
	} {
		if got := ssaform.DefPos(x.f); !slices.Equal(got, x.want) {
			t.Errorf("%s: %v, want %v", name, got, x.want)
		}
	}
}

// P22.5
func TestReadsComeBehindDefPos(t *testing.T) {
	reads := 0
	for _, f := range someFuncs(t) {
		if !ssaform.IsSSA(f) {
			continue
		}
		first := ssaform.DefPos(f)
		for _, p := range positionsOf(f) {
			for _, r := range cfg.Reads(f, p) {
				if !reached(f, -1)[p.Block] || r < 0 || r >= len(first) {
					continue
				}
				if !slices.Contains(cfg.Writes(f, first[r]), r) || !ssaform.Precedes(f, first[r], p) {
					t.Fatalf("register %d at %v: DefPos %v\n%+v", r, p, first[r], f)
				}
				reads++
			}
		}
	}
	if reads < 1000 {
		t.Errorf("%d reads", reads)
	}
}

// P22.2: a chain of as many blocks as there may be, each of which reads what the first and the last but one have written
func TestLongChain(t *testing.T) {
	f := api.Func{Blocks: make([]api.Block, api.MaxNodes)}
	for i := range f.Blocks {
		f.Blocks[i].Instrs = []api.Instr{write(i, max(i-1, 0), 0)}
		f.Blocks[i].Term = jump(min(i+1, api.MaxNodes-1))
	}
	f.Blocks[0].Instrs[0].Args = nil
	expectCheck(t, "a long chain", f, api.Pos{}, api.OK)
	f.Blocks[api.MaxNodes-1].Instrs[0].Args[0]++
	expectCheck(t, "with an early read", f, at(api.MaxNodes-1, 0), api.ErrDominance)
	if !ssaform.Precedes(f, at(3, 1), at(api.MaxNodes-1, -1)) || ssaform.Precedes(f, at(api.MaxNodes-1, -1), at(3, 1)) {
		t.Error("Precedes")
	}
}

// Rule 4
func TestArgumentsStayAsTheyAre(t *testing.T) {
	for _, f := range someFuncs(t) {
		given := verify.CloneFunc(f)
		ssaform.Check(f)
		ssaform.Precedes(f, at(0, -1), at(0, 0))
		first := ssaform.DefPos(f)
		for r := range first {
			first[r] = at(7, 7)
		}
		ssaform.Compact(f)
		if !verify.EqualFunc(f, given) {
			t.Fatalf("%+v has become %+v", given, f)
		}
	}
}

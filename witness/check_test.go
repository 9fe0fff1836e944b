package witness_test

import (
	"math"
	"math/rand"
	"slices"
	"testing"

	"burnish/api"
	"burnish/expr"
	"burnish/verify"
	"burnish/witness"
)

func expectCheck(t *testing.T, name string, src, dst api.Module, index int, w api.Witness, want api.Errno) {
	t.Helper()
	if got := witness.Check(src, dst, index, w); got != want {
		t.Errorf("%s: %v, want %v", name, got, want)
	}
}

// expectError checks what Check returns for the samples and a changed witness.
func expectError(t *testing.T, name string, want api.Errno, change func(w *api.Witness)) {
	t.Helper()
	src, dst := samples(t)
	w := sample()
	change(&w)
	expectCheck(t, name, src, dst, fn, w, want)
}

// P24.1
func TestWellFormedWitnesses(t *testing.T) {
	src, dst := samples(t)
	start := api.Witness{CutPoints: make([]api.CutPoint, 1)}
	expectCheck(t, "the sample", src, dst, fn, sample(), api.OK)
	expectCheck(t, "a cut point alone", src, dst, fn, start, api.OK)
	expectCheck(t, "of the other function", src, dst, 0, start, api.OK)
	start.CutPoints[0].Invariants = []api.Invariant{}
	expectCheck(t, "an empty list of invariants", src, dst, fn, start, api.OK)
	expectError(t, "the same path twice", api.OK, func(w *api.Witness) { w.Paths = append(w.Paths, w.Paths[0]) })
	expectError(t, "paths that are not there", api.OK, func(w *api.Witness) { w.Paths[0] = path(2, 0, []int{9, math.MaxInt}, []int{7}) })
	expectError(t, "a source block twice, and one that nothing leads to", api.OK, func(w *api.Witness) { w.CutPoints = append(w.CutPoints, api.CutPoint{Target: 1, Source: 4}) })
}

// P24.1
func TestModulesThatDoNotCorrespond(t *testing.T) {
	change := func(name string, edit func(src, dst *api.Module)) {
		t.Helper()
		src, dst := samples(t)
		edit(&src, &dst)
		expectCheck(t, name, src, dst, fn, sample(), api.ErrArg)
		expectCheck(t, name+", with a witness that is wrong too", src, dst, fn, api.Witness{Paths: make([]api.Path, api.MaxPaths+1)}, api.ErrArg)
	}
	change("an invalid source", func(src, dst *api.Module) { src.Funcs[fn].Blocks[0].Term.Kind = 9 })
	change("an invalid target", func(src, dst *api.Module) { dst.Funcs[fn].Blocks[0].Term.Kind = 9 })
	change("invalid in another function", func(src, dst *api.Module) { dst.Funcs[0].Blocks = nil })
	change("both invalid alike", func(src, dst *api.Module) { src.Globals[0].Len, dst.Globals[0].Len = 0, 0 })
	change("another global", func(src, dst *api.Module) { dst.Globals[1].Len = 2 })
	change("another start value", func(src, dst *api.Module) { src.Globals[0].Init = []int64{8} })
	change("a global less", func(src, dst *api.Module) { dst.Globals = dst.Globals[:1] })
	change("another name of a global", func(src, dst *api.Module) { dst.Globals[1].Name = "k" })
	change("a constant global", func(src, dst *api.Module) { src.Globals[1].ReadOnly = true })
	change("a function more", func(src, dst *api.Module) {
		dst.Funcs = append(dst.Funcs, api.Func{Name: "more", Blocks: dst.Funcs[0].Blocks})
	})
	change("a function less", func(src, dst *api.Module) {
		src.Funcs = append(src.Funcs, api.Func{Name: "more", Blocks: src.Funcs[0].Blocks})
	})
	change("another name", func(src, dst *api.Module) { dst.Funcs[fn].Name = "k" })
	change("another name of another function", func(src, dst *api.Module) { dst.Funcs[0].Name = "k" })
	change("functions in another order", func(src, dst *api.Module) { slices.Reverse(dst.Funcs) })
	change("another result", func(src, dst *api.Module) { dst.Funcs[0].Result = api.I8 })
	change("a parameter less", func(src, dst *api.Module) { dst.Funcs[fn].Params = []int{4} })
	change("another parameter's type", func(src, dst *api.Module) { src.Funcs[0].Params, src.Funcs[0].Regs = []int{0}, []api.Type{api.I8} })
	change("parameters of other types", func(src, dst *api.Module) {
		src.Funcs[0].Params, src.Funcs[0].Regs = []int{0}, []api.Type{api.I8}
		dst.Funcs[0].Params, dst.Funcs[0].Regs = []int{0}, []api.Type{api.I32}
	})
	change("parameter types in another order", func(src, dst *api.Module) {
		src.Funcs[0].Params, src.Funcs[0].Regs = []int{0, 1}, []api.Type{api.I8, api.I32}
		dst.Funcs[0].Params, dst.Funcs[0].Regs = []int{1, 0}, []api.Type{api.I8, api.I32}
	})
	src, dst := samples(t)
	for _, index := range []int{-1, 2, math.MaxInt, math.MinInt} {
		expectCheck(t, "no function", src, dst, index, sample(), api.ErrArg)
	}
	expectCheck(t, "no modules", api.Module{}, api.Module{}, 0, sample(), api.ErrArg)
}

// P24.1
func TestTooMany(t *testing.T) {
	expectError(t, "cut points", api.ErrLimit, func(w *api.Witness) { w.CutPoints = make([]api.CutPoint, api.MaxCutPoints+1) })
	expectError(t, "as many cut points as there may be", api.ErrDup, func(w *api.Witness) { w.CutPoints = make([]api.CutPoint, api.MaxCutPoints) })
	expectError(t, "paths", api.ErrLimit, func(w *api.Witness) { w.Paths = slices.Repeat(w.Paths[:1], api.MaxPaths+1) })
	expectError(t, "as many paths as there may be", api.OK, func(w *api.Witness) { w.Paths = slices.Repeat(w.Paths[:1], api.MaxPaths) })
	expectError(t, "calls", api.ErrLimit, func(w *api.Witness) { w.Expand = make([]api.Pos, api.MaxPaths+1) })
	expectError(t, "as many calls as there may be", api.OK, func(w *api.Witness) { w.Expand = make([]api.Pos, api.MaxPaths) })
	expectError(t, "paths, and no cut points", api.ErrLimit, func(w *api.Witness) { *w = api.Witness{Paths: make([]api.Path, api.MaxPaths+1)} })
	expectError(t, "no cut points", api.ErrNotFound, func(w *api.Witness) { w.CutPoints = nil })
	expectError(t, "nothing at all", api.ErrNotFound, func(w *api.Witness) { *w = api.Witness{} })
}

// P24.1
func TestCutPointErrors(t *testing.T) {
	for name, x := range map[string]struct {
		want  api.Errno
		first api.CutPoint
	}{
		"another target":      {api.ErrNotFound, api.CutPoint{Target: 1}},
		"another source":      {api.ErrNotFound, api.CutPoint{Source: 1}},
		"invariants":          {api.ErrNotFound, api.CutPoint{Invariants: []api.Invariant{holds(5, expr.Const(api.I32, 0))}}},
		"an invalid one's":    {api.ErrNotFound, api.CutPoint{Invariants: []api.Invariant{{}}}},
		"no blocks":           {api.ErrNotFound, api.CutPoint{Target: -1, Source: 99}},
		"nothing is wrong":    {api.OK, api.CutPoint{}},
		"an empty list of it": {api.OK, api.CutPoint{Invariants: []api.Invariant{}}},
	} {
		expectError(t, "cut point 0: "+name, x.want, func(w *api.Witness) { w.CutPoints[0] = x.first })
	}
	for name, x := range map[string]struct {
		want           api.Errno
		target, source int
	}{
		"the last blocks": {api.OK, 4, 4}, "no block of the target": {api.ErrNotFound, 6, 0}, "no block of the source": {api.ErrNotFound, 4, 5},
		"negative": {api.ErrNotFound, -1, 1}, "a negative source": {api.ErrNotFound, 4, -1}, "far away": {api.ErrNotFound, math.MaxInt, math.MinInt},
		"an earlier target": {api.ErrDup, 2, 3}, "the first target": {api.ErrDup, 0, 1}, "cut point 0": {api.ErrDup, 0, 0},
		"an earlier target, no source": {api.ErrNotFound, 2, 5}, "an earlier source": {api.OK, 3, 0},
	} {
		expectError(t, name, x.want, func(w *api.Witness) {
			w.CutPoints = append(w.CutPoints, api.CutPoint{Target: x.target, Source: x.source})
		})
		if x.want != api.OK {
			expectError(t, name+", with an invariant that is wrong too", x.want, func(w *api.Witness) {
				w.CutPoints = append(w.CutPoints, api.CutPoint{Target: x.target, Source: x.source, Invariants: []api.Invariant{{Exact: true}}})
			})
		}
	}
}

// P24.1
func TestInvariantErrors(t *testing.T) {
	zero, tooLong := expr.Const(api.I32, 0), ofLength(api.MaxExprLen+1)
	for name, x := range map[string]struct {
		want api.Errno
		inv  api.Invariant
	}{
		"another register":                           {api.OK, holds(7, zero)},
		"the last register":                          {api.OK, holds(9, expr.Const(api.Bool, 1))},
		"the last register of the source":            {api.OK, ofSource(7, expr.Const(api.I64, 5))},
		"a register told of the target only":         {api.OK, ofSource(2, zero)},
		"a register told of the source only":         {api.OK, exactly(3, zero)},
		"a source register of the same number":       {api.OK, holds(8, expr.Reg(6))},
		"as many nodes as there may be":              {api.OK, holds(7, ofLength(api.MaxExprLen))},
		"Exact, but not OfSource":                    {api.ErrFormat, api.Invariant{Exact: true, Reg: 7, Expr: zero}},
		"the same, of no register":                   {api.ErrFormat, api.Invariant{Exact: true, Reg: 77, Expr: zero}},
		"no register":                                {api.ErrNotFound, holds(10, zero)},
		"no register of the source":                  {api.ErrNotFound, ofSource(8, zero)},
		"a negative register":                        {api.ErrNotFound, holds(-1, zero)},
		"far away, with a long expression":           {api.ErrNotFound, ofSource(math.MaxInt, tooLong)},
		"an earlier register":                        {api.ErrDup, holds(4, zero)},
		"an earlier register of the source":          {api.ErrDup, ofSource(6, zero)},
		"the same, Exact":                            {api.ErrDup, exactly(6, zero)},
		"one that was Exact":                         {api.ErrDup, ofSource(5, global(0))},
		"an earlier register, a long expression":     {api.ErrDup, holds(4, tooLong)},
		"an earlier register, no expression":         {api.ErrDup, holds(4, nil)},
		"a node too many":                            {api.ErrLong, holds(7, tooLong)},
		"a node too many, of another type":           {api.ErrLong, holds(3, tooLong)},
		"many nodes that are wrong":                  {api.ErrLong, holds(7, make([]api.ExprNode, api.MaxExprLen+1))},
		"as many nodes as there may be, all wrong":   {api.ErrType, holds(7, make([]api.ExprNode, api.MaxExprLen))},
		"no expression":                              {api.ErrShort, holds(7, nil)},
		"two values":                                 {api.ErrLong, holds(7, append(expr.Reg(0), expr.Reg(0)...))},
		"a division":                                 {api.ErrType, holds(7, expr.Apply(api.OpSdiv, api.I32, zero, zero))},
		"no register of the source in an expression": {api.ErrNotFound, holds(7, expr.Reg(8))},
		"no global in an expression":                 {api.ErrNotFound, holds(7, global(2))},
		"a wrong node in an expression":              {api.ErrFormat, holds(7, []api.ExprNode{{Op: api.OpCopy, Type: api.I32}})},
		"a constant that is too great":               {api.ErrRange, holds(7, expr.Const(api.I32, math.MaxInt64))},
		"another type":                               {api.ErrType, holds(7, expr.Const(api.I64, 0))},
		"the type of the source's register":          {api.ErrType, holds(3, expr.Reg(3))},
		"the type of the target's register":          {api.ErrType, ofSource(7, expr.Reg(0))},
	} {
		expectError(t, name, x.want, func(w *api.Witness) {
			w.CutPoints[1].Invariants = append(w.CutPoints[1].Invariants, x.inv)
		})
	}
}

// ofLength returns an expression of type I32 with n nodes.
func ofLength(n int) []api.ExprNode {
	e := expr.Const(api.I32, 0)
	if n%2 == 0 {
		e = expr.Apply(api.OpLoad, api.I32, global(0))
	}
	for len(e) < n {
		e = expr.Apply(api.OpXor, api.I32, e, expr.Reg(3))
	}
	return e
}

// P24.1
func TestPathErrors(t *testing.T) {
	full := make([]int, api.MaxPathLen)
	tooFar := make([]int, api.MaxPathLen+1)
	toEnd := append(make([]int, api.MaxPathLen-1), -1)
	one, end := []int{0}, []int{-1}
	for name, x := range map[string]struct {
		want api.Errno
		path api.Path
	}{
		"to a cut point":                    {api.OK, path(2, 2, []int{3, 0}, []int{99})},
		"to the end":                        {api.OK, path(0, -1, []int{3, 0, -1}, end)},
		"as long as it may be":              {api.OK, path(0, 0, full, full)},
		"as long as it may be, to the end":  {api.OK, path(0, -1, toEnd, toEnd)},
		"no start":                          {api.ErrNotFound, path(3, 0, one, one)},
		"a negative start":                  {api.ErrNotFound, path(-1, 0, one, one)},
		"the end as the start":              {api.ErrNotFound, path(-1, -1, end, end)},
		"no end":                            {api.ErrNotFound, path(0, 3, one, one)},
		"less than the end":                 {api.ErrNotFound, path(0, -2, end, end)},
		"far away, and empty":               {api.ErrNotFound, path(math.MaxInt, math.MinInt, nil, nil)},
		"no end, and too long":              {api.ErrNotFound, path(0, 3, tooFar, one)},
		"an empty target":                   {api.ErrShort, path(0, 0, nil, one)},
		"an empty source":                   {api.ErrShort, path(0, 0, one, []int{})},
		"an empty source to the end":        {api.ErrShort, path(0, -1, end, nil)},
		"an empty target, a long source":    {api.ErrShort, path(0, 0, nil, tooFar)},
		"an empty source, a long target":    {api.ErrShort, path(0, 0, tooFar, nil)},
		"a long target":                     {api.ErrLong, path(0, 0, tooFar, one)},
		"a long source":                     {api.ErrLong, path(0, 0, one, tooFar)},
		"a long target, to the end":         {api.ErrLong, path(0, -1, append(full, -1), end)},
		"a long source, and wrong":          {api.ErrLong, path(0, -1, []int{-5}, tooFar)},
		"less than -1 in the target":        {api.ErrPath, path(0, 0, []int{0, -2, 0}, one)},
		"less than -1 at its end":           {api.ErrPath, path(0, 0, []int{0, -2}, one)},
		"the least number in the source":    {api.ErrPath, path(0, 0, one, []int{math.MinInt})},
		"less than -1 before the end":       {api.ErrPath, path(0, -1, []int{-2, -1}, end)},
		"less than -1 at the end":           {api.ErrPath, path(0, -1, end, []int{-2})},
		"the end within the target":         {api.ErrPath, path(0, 0, []int{-1, 0}, one)},
		"the end within the source":         {api.ErrPath, path(0, 0, one, []int{0, -1, 0})},
		"the end twice":                     {api.ErrPath, path(0, -1, []int{-1, -1}, end)},
		"the end twice in the source":       {api.ErrPath, path(0, -1, end, []int{0, -1, -1})},
		"the target does not end":           {api.ErrPath, path(0, -1, one, end)},
		"the source does not end":           {api.ErrPath, path(0, -1, end, one)},
		"the target ends at a cut point":    {api.ErrPath, path(0, 1, []int{0, -1}, one)},
		"the source ends at a cut point":    {api.ErrPath, path(0, 1, one, end)},
		"the end first, then another index": {api.ErrPath, path(0, -1, []int{-1, 0}, end)},
	} {
		expectError(t, name, x.want, func(w *api.Witness) { w.Paths = append(w.Paths, x.path) })
	}
}

// P24.1: what comes first in the witness is told first.
func TestFirstError(t *testing.T) {
	noBlock, repeated := api.CutPoint{Target: 77}, api.CutPoint{Target: 2}
	wrong := api.CutPoint{Target: 3, Invariants: []api.Invariant{holds(7, ofLength(3)), holds(8, nil), holds(99, nil)}}
	noStart, empty := path(9, 0, nil, nil), path(0, 0, nil, nil)
	cutPoints := func(name string, want api.Errno, more ...api.CutPoint) {
		t.Helper()
		expectError(t, name, want, func(w *api.Witness) {
			w.CutPoints = append(w.CutPoints, more...)
			w.Paths = []api.Path{path(0, 0, []int{-3}, []int{-3})}
		})
	}
	cutPoints("no block, then a repetition", api.ErrNotFound, noBlock, repeated)
	cutPoints("a repetition, then no block", api.ErrDup, repeated, noBlock)
	cutPoints("a wrong invariant, then a repetition", api.ErrShort, wrong, repeated)
	cutPoints("a repetition, then a wrong invariant", api.ErrDup, repeated, wrong)
	cutPoints("the cut points are right", api.ErrPath)
	expectError(t, "no start, then an empty path", api.ErrNotFound, func(w *api.Witness) { w.Paths = append(w.Paths, noStart, empty) })
	expectError(t, "an empty path, then no start", api.ErrShort, func(w *api.Witness) { w.Paths = append(w.Paths, empty, noStart) })
}

// checkInvariant is what Check does for an invariant behind others, as the document defines it.
func checkInvariant(src, dst api.Module, earlier []api.Invariant, inv api.Invariant) api.Errno {
	regs := dst.Funcs[fn].Regs
	if inv.OfSource {
		regs = src.Funcs[fn].Regs
	}
	if inv.Exact && !inv.OfSource {
		return api.ErrFormat
	}
	if inv.Reg < 0 || inv.Reg >= len(regs) {
		return api.ErrNotFound
	}
	if slices.ContainsFunc(earlier, func(other api.Invariant) bool { return other.OfSource == inv.OfSource && other.Reg == inv.Reg }) {
		return api.ErrDup
	}
	if len(inv.Expr) > api.MaxExprLen {
		return api.ErrLong
	}
	ty, err := expr.Check(inv.Expr, src.Funcs[fn], src)
	if err == api.OK && ty != regs[inv.Reg] {
		return api.ErrType
	}
	return err
}

// checkPath is what Check does for a path, as the document defines it.
func checkPath(p api.Path, cutPoints int) api.Errno {
	if p.Start < 0 || p.Start >= cutPoints || p.End < -1 || p.End >= cutPoints {
		return api.ErrNotFound
	}
	if len(p.Target) == 0 || len(p.Source) == 0 {
		return api.ErrShort
	}
	if len(p.Target) > api.MaxPathLen || len(p.Source) > api.MaxPathLen {
		return api.ErrLong
	}
	for _, list := range [][]int{p.Target, p.Source} {
		for i, index := range list {
			if index < -1 || index == -1 && i < len(list)-1 {
				return api.ErrPath
			}
		}
		if ends := list[len(list)-1] == -1; ends != (p.End == -1) {
			return api.ErrPath
		}
	}
	return api.OK
}

// check is Check for the samples and few cut points and paths, as the document defines it.
func check(src, dst api.Module, w api.Witness) api.Errno {
	if len(w.CutPoints) == 0 || w.CutPoints[0].Target != 0 || w.CutPoints[0].Source != 0 || len(w.CutPoints[0].Invariants) > 0 {
		return api.ErrNotFound
	}
	for i, p := range w.CutPoints {
		if p.Target < 0 || p.Target >= len(dst.Funcs[fn].Blocks) || p.Source < 0 || p.Source >= len(src.Funcs[fn].Blocks) {
			return api.ErrNotFound
		}
		if slices.ContainsFunc(w.CutPoints[:i], func(other api.CutPoint) bool { return other.Target == p.Target }) {
			return api.ErrDup
		}
		for j, inv := range p.Invariants {
			if err := checkInvariant(src, dst, p.Invariants[:j], inv); err != api.OK {
				return err
			}
		}
	}
	for _, p := range w.Paths {
		if err := checkPath(p, len(w.CutPoints)); err != api.OK {
			return err
		}
	}
	return api.OK
}

// P24.1: by the definition
func TestRandomWitnesses(t *testing.T) {
	r := rand.New(rand.NewSource(1))
	src, dst := samples(t)
	codes := map[api.Errno]int{}
	for range 6000 {
		w := sample()
		for range 1 + r.Intn(3) {
			damage(r, &w)
		}
		want := check(src, dst, w)
		codes[want]++
		if got := witness.Check(src, dst, fn, w); got != want {
			t.Fatalf("%v, want %v\n%+v", got, want, w)
		}
	}
	for _, code := range []api.Errno{api.OK, api.ErrNotFound, api.ErrDup, api.ErrFormat, api.ErrType, api.ErrShort, api.ErrLong, api.ErrPath} {
		if codes[code] < 50 {
			t.Errorf("%v: %d witnesses", code, codes[code])
		}
	}
}

// DOC.md, Rule 4
func TestCheckChangesNothing(t *testing.T) {
	src, dst := samples(t)
	w := sample()
	witness.Check(src, dst, fn, w)
	wantSrc, wantDst := samples(t)
	if !verify.Equal(src, wantSrc) || !verify.Equal(dst, wantDst) || !witness.Equal(w, sample()) {
		t.Error("an argument has changed")
	}
}

package expr_test

import (
	"math"
	"slices"
	"testing"

	"burnish/api"
	"burnish/expr"
)

func expectNodes(t *testing.T, name string, got []api.ExprNode, want ...api.ExprNode) {
	t.Helper()
	if !slices.Equal(got, want) {
		t.Errorf("%s: %v, want %v", name, got, want)
	}
}

// P23.2
func TestBuild(t *testing.T) {
	zero, five := api.ExprNode{Op: api.OpCopy}, api.ExprNode{Op: api.OpConst, Type: api.I32, N: 5}
	sum := api.ExprNode{Op: api.OpAdd, Type: api.I32}
	expectNodes(t, "Reg(0)", expr.Reg(0), zero)
	for _, r := range []int{3999, -1, math.MaxInt, math.MinInt} {
		expectNodes(t, "Reg", expr.Reg(r), api.ExprNode{Op: api.OpCopy, Type: api.Void, N: int64(r)})
	}
	expectNodes(t, "Const", expr.Const(api.I32, 5), five)
	for _, n := range []int64{0, -1, math.MaxInt64, math.MinInt64} {
		for _, ty := range []api.Type{api.Bool, api.I64, api.V4, api.Void, -7, 99} {
			expectNodes(t, "Const", expr.Const(ty, n), api.ExprNode{Op: api.OpConst, Type: ty, N: n})
		}
	}
	expectNodes(t, "Apply of two", expr.Apply(api.OpAdd, api.I32, expr.Reg(0), expr.Const(api.I32, 5)), zero, five, sum)
	expectNodes(t, "Apply of none", expr.Apply(api.OpAdd, api.I32), sum)
	expectNodes(t, "Apply of one", expr.Apply(-4, 99, expr.Reg(0)), zero, api.ExprNode{Op: -4, Type: 99})
	expectNodes(t, "Apply of empty ones", expr.Apply(api.OpAdd, api.I32, nil, expr.Reg(0), []api.ExprNode{}), zero, sum)
	nested := expr.Apply(api.OpAdd, api.I32, expr.Apply(api.OpAdd, api.I32, expr.Const(api.I32, 5), expr.Reg(0)), joined(expr.Reg(0), expr.Reg(0)))
	expectNodes(t, "Apply of Apply", nested, five, zero, sum, zero, zero, sum)
}

// P23.3
func TestRegs(t *testing.T) {
	for name, x := range map[string]struct {
		e    []api.ExprNode
		want []int
	}{
		"nothing":             {nil, nil},
		"no registers":        {expr.Apply(api.OpAdd, api.I32, expr.Const(api.I32, 3), expr.Const(api.I32, 4)), nil},
		"one":                 {expr.Reg(7), []int{7}},
		"not sorted, twice":   {joined(expr.Reg(7), expr.Reg(2), expr.Reg(7), expr.Reg(30), expr.Reg(2)), []int{2, 7, 30}},
		"numbers of others":   {joined([]api.ExprNode{{Op: api.OpGlobal, Type: api.Ptr, N: 1}, {Op: api.OpLane, N: 2}, {Op: 99, N: 5}, {Op: api.OpPoison, N: 6}}, expr.Reg(4)), []int{4}},
		"with a type":         {[]api.ExprNode{{Op: api.OpCopy, Type: api.I32, N: 9}, {Op: api.OpCopy, N: 8}}, []int{8, 9}},
		"no registers at all": {joined(expr.Reg(math.MaxInt), expr.Reg(0), expr.Reg(-1), expr.Reg(math.MinInt)), []int{math.MinInt, -1, 0, math.MaxInt}},
	} {
		if got := expr.Regs(x.e); !slices.Equal(got, x.want) {
			t.Errorf("%s: %v, want %v", name, got, x.want)
		}
	}
}

// P23.4
func TestFormat(t *testing.T) {
	load := expr.Apply(api.OpLoad, api.V2, []api.ExprNode{{Op: api.OpGlobal, Type: api.Ptr, N: 3}})
	for name, x := range map[string]struct {
		e    []api.ExprNode
		want string
	}{
		"nothing":               {nil, ""},
		"a register":            {expr.Reg(12), "r12"},
		"no register":           {expr.Reg(-1), "r-1"},
		"a sum":                 {expr.Apply(api.OpAdd, api.I32, expr.Reg(0), expr.Const(api.I32, 1)), "r0 const:i32:1 add:i32:0"},
		"a lane of a load":      {append(load, api.ExprNode{Op: api.OpLane, Type: api.I32, N: 1}), "global:ptr:3 load:v2:0 lane:i32:1"},
		"numbers":               {joined(expr.Const(api.I64, math.MinInt64), expr.Const(api.Bool, math.MaxInt64)), "const:i64:-9223372036854775808 const:bool:9223372036854775807"},
		"a register and a type": {[]api.ExprNode{{Op: api.OpCopy, Type: api.I8, N: 4}, {Op: api.OpCopy, Type: -1, N: 4}}, "copy:i8:4 copy:-1:4"},
		"no type":               {[]api.ExprNode{{Op: api.OpPoison, Type: api.Void}, {Op: api.OpPoison, Type: 8}, {Op: api.OpPoison, Type: -3, N: 2}}, "poison:void:0 poison:8:0 poison:-3:2"},
		"no operation":          {[]api.ExprNode{{}, {Op: 34, Type: api.V4}, {Op: -1, Type: 44, N: -5}, {Op: api.OpSpill, N: 7}}, "0:void:0 34:v4:0 -1:44:-5 40:void:7"},
		"what is not allowed":   {[]api.ExprNode{{Op: api.OpSdiv, Type: api.I32}, {Op: api.OpCall}}, "sdiv:i32:0 call:void:0"},
	} {
		if got := expr.Format(x.e); got != x.want {
			t.Errorf("%s: %q, want %q", name, got, x.want)
		}
	}
}

// P23.6
func TestFormatsDiffer(t *testing.T) {
	var nodes []api.ExprNode
	for op := -1; op <= api.OpLane+2; op++ {
		for ty := api.Void - 1; ty <= api.V4+1; ty++ {
			for _, n := range []int64{0, 1, -1, 11} {
				nodes = append(nodes, api.ExprNode{Op: op, Type: ty, N: n})
			}
		}
	}
	all := append(someExprs(), nil)
	for i, node := range nodes {
		all = append(all, []api.ExprNode{node}, []api.ExprNode{node, nodes[(i*7+3)%len(nodes)]}, []api.ExprNode{node, node, node})
	}
	texts := map[string][]api.ExprNode{}
	for _, e := range all {
		text := expr.Format(e)
		if other, found := texts[text]; found && !slices.Equal(e, other) {
			t.Errorf("%q: %v and %v", text, e, other)
		}
		texts[text] = e
	}
	if len(texts) < 5000 {
		t.Errorf("%d texts", len(texts))
	}
}

// P23.7
func TestRegsOfApply(t *testing.T) {
	all := someExprs()
	for i := range all {
		args := all[i:min(i+i%5, len(all))]
		var want []int
		for _, e := range args {
			want = append(want, expr.Regs(e)...)
		}
		slices.Sort(want)
		want = slices.Compact(want)
		if got := expr.Regs(expr.Apply(api.OpAdd, api.I32, args...)); !slices.Equal(got, want) {
			t.Fatalf("%v, want %v", got, want)
		}
	}
}

// DOC.md, Rules 4 and 5: Apply writes nothing behind its arguments, and keeps none of them.
func TestApplyReturnsNewMemory(t *testing.T) {
	first := append(make([]api.ExprNode, 0, 8), expr.Reg(0)...)
	second := append(make([]api.ExprNode, 0, 8), expr.Reg(1)...)
	args := append(make([][]api.ExprNode, 0, 8), first, second)
	for _, list := range [][][]api.ExprNode{args, args[:1], {first, nil}, {nil, second}} {
		e := expr.Apply(api.OpAdd, api.I32, list...)
		want := slices.Clone(e)
		for i := range e {
			e[i] = api.ExprNode{Op: 77}
		}
		expectNodes(t, "Apply again", expr.Apply(api.OpAdd, api.I32, list...), want...)
	}
	zero := make([]api.ExprNode, 7)
	expectNodes(t, "the first argument", first[:8], append(expr.Reg(0), zero...)...)
	expectNodes(t, "the second argument", second[:8], append(expr.Reg(1), zero...)...)
	one, two := expr.Reg(4), expr.Reg(4)
	one[0].N = 5
	expectNodes(t, "Reg after another", two, api.ExprNode{Op: api.OpCopy, N: 4})
}

// DOC.md, Rule 4
func TestArgumentsStayAsTheyAre(t *testing.T) {
	f, m := everyType(), twoGlobals()
	for _, e := range someExprs() {
		given := slices.Clone(e)
		expr.Check(e, f, m)
		expr.Format(e)
		regs := expr.Regs(e)
		for i := range regs {
			regs[i] = 77
		}
		expectNodes(t, "the argument", e, given...)
	}
	if !slices.Equal(f.Regs, everyType().Regs) || !slices.EqualFunc(m.Globals, twoGlobals().Globals, func(a, b api.Global) bool { return a.Name == b.Name }) {
		t.Errorf("the function has become %v, the module %v", f, m)
	}
}

package printer_test

import (
	"math"
	"reflect"
	"strings"
	"testing"

	"burnish/api"
	"burnish/lexer"
	"burnish/printer"
	"burnish/verify"
)

// expectModule checks the text of a module, and the diagnostic.
func expectModule(t *testing.T, why string, m api.Module, want string, diagnostic api.Diagnostic) {
	t.Helper()
	if got, d := printer.Module(m); got != want || d != diagnostic {
		t.Errorf("%s: %.300q, %+v, want %.300q, %+v", why, got, d, want, diagnostic)
	}
}

func expectFunc(t *testing.T, why string, m api.Module, fn int, want string, diagnostic api.Diagnostic) {
	t.Helper()
	if got, d := printer.Func(m, fn); got != want || d != diagnostic {
		t.Errorf("%s: function %d: %.300q, %+v, want %.300q, %+v", why, fn, got, d, want, diagnostic)
	}
}

// P15.1, the format
func TestModule(t *testing.T) {
	m := sample()
	expectModule(t, "all", m, globalsText+strings.Join(funcTexts, ""), api.Diagnostic{})
	m.Funcs = nil
	expectModule(t, "globals", m, globalsText, api.Diagnostic{})
	expectModule(t, "nothing", api.Module{}, "", api.Diagnostic{})
	expectModule(t, "nothing", api.Module{Globals: []api.Global{}, Funcs: []api.Func{}}, "", api.Diagnostic{})
}

// P15.2
func TestFunc(t *testing.T) {
	for fn, text := range funcTexts {
		expectFunc(t, "sample", sample(), fn, text, api.Diagnostic{})
	}
}

// The examples of the chapter
func TestExamples(t *testing.T) {
	double := api.Func{Name: "f", Params: []int{0}, Result: api.I32, Regs: []api.Type{api.I32, api.I32}, Blocks: []api.Block{
		{Instrs: []api.Instr{op(1, api.OpAdd, api.I32, 0, 0)}, Term: api.Terminator{Kind: api.Return, Args: []int{1}}},
	}}
	m := api.Module{Funcs: []api.Func{double}}
	text := "func f ( 0 ) i32\nregs i32 i32\nblock 0 ( )\n1 = add i32 ( 0 0 )\nreturn ( 1 )\n"
	expectModule(t, "double", m, text, api.Diagnostic{})
	expectFunc(t, "double", m, 0, text, api.Diagnostic{})
	others := api.Func{Name: "g", Params: []int{0}, Regs: []api.Type{api.I32, api.Ptr, api.I32, api.Ptr, api.I32}, Blocks: []api.Block{
		{Instrs: []api.Instr{op(-1, api.OpStore, api.Void, 1, 2), {Op: api.OpAlloca, Type: api.Ptr, Dst: 3, Elem: api.I32, Imm: 4}},
			Term: api.Terminator{Kind: api.Switch, Args: []int{0}, Cases: []int64{1, 2}, Succs: []api.Edge{edge(1), edge(2), edge(3, 4)}}},
		{Term: api.Terminator{Kind: api.Return}},
		{Term: api.Terminator{Kind: api.Return}},
		{Params: []int{4}, Term: api.Terminator{Kind: api.Return}},
	}}
	got, _ := printer.Func(api.Module{Funcs: []api.Func{others}}, 0)
	if lines := strings.Split(got, "\n"); len(lines) != 13 || lines[3] != "store ( 1 2 )" || lines[4] != "3 = alloca ptr ( ) i32 4" || lines[5] != "switch 0 ( 1 2 ) 1 ( ) 2 ( ) 3 ( 4 )" {
		t.Errorf("%q", lines)
	}
}

// P15.1, the format: a line for each type that a global, a register, a parameter and a result can have
func TestTypes(t *testing.T) {
	names := []string{"void", "bool", "i8", "i32", "i64", "ptr", "v2", "v4"}
	for ty := api.Bool; ty <= api.V4; ty++ {
		f := api.Func{Name: "f", Params: []int{1}, Result: ty, Regs: []api.Type{api.I8, ty}, Blocks: []api.Block{{Term: api.Terminator{Kind: api.Return, Args: []int{1}}}}}
		name := names[ty]
		expectModule(t, name, api.Module{Funcs: []api.Func{f}}, "func f ( 1 ) "+name+"\nregs i8 "+name+"\nblock 0 ( )\nreturn ( 1 )\n", api.Diagnostic{})
	}
	for _, ty := range []api.Type{api.I8, api.I32, api.I64, api.Ptr} {
		expectModule(t, names[ty], api.Module{Globals: []api.Global{{Name: "G", Elem: ty, Len: 17}}}, "global G "+names[ty]+" 17\n", api.Diagnostic{})
	}
}

// invalid returns modules that are not valid.
func invalid() []api.Module {
	var all []api.Module
	for _, change := range []func(m *api.Module){
		func(m *api.Module) { m.Globals[1].Name = "data" },
		func(m *api.Module) { m.Globals[0].Init[0] = 1 << 31 },
		func(m *api.Module) { m.Globals = make([]api.Global, 33) },
		func(m *api.Module) { m.Funcs = make([]api.Func, 33) },
		func(m *api.Module) { m.Funcs[2].Name = "" },
		func(m *api.Module) { m.Funcs[0].Blocks = nil },
		func(m *api.Module) { m.Funcs[0].Blocks[0].Params = []int{0} },
		func(m *api.Module) { m.Funcs[1].Blocks[0].Instrs[3].Dst = 99 },
		func(m *api.Module) { m.Funcs[1].Blocks[0].Instrs[1].Op = api.OpFill },
		func(m *api.Module) { m.Funcs[1].Blocks[1].Term.Kind = 7 },
		func(m *api.Module) { m.Funcs[1].Blocks[5].Term.Sym = 3 },
		func(m *api.Module) { m.Funcs[2].Blocks[0].Term.Succs[0].Block = -1 },
	} {
		m := sample()
		change(&m)
		all = append(all, m)
	}
	return all
}

// P15.1, P15.2: what is not valid has no text, nor has any function of it, and what is wrong with it counts first.
func TestInvalidModules(t *testing.T) {
	for _, m := range invalid() {
		want := verify.Module(m)
		if want.Code == api.OK {
			t.Fatal("the module is valid")
		}
		expectModule(t, "an invalid module", m, "", want)
		for _, fn := range []int{0, 1, 2, -1, 3, math.MinInt, math.MaxInt} {
			expectFunc(t, "an invalid module", m, fn, "", want)
		}
	}
}

// P15.2
func TestFuncThatIsNone(t *testing.T) {
	for _, m := range []api.Module{{}, sample()} {
		for _, fn := range []int{-1, len(m.Funcs), len(m.Funcs) + 1, math.MinInt, math.MaxInt} {
			expectFunc(t, "no function", m, fn, "", api.Diagnostic{Code: api.ErrNotFound, Part: api.PartFunc, Index: fn, Block: -1, Instr: -1})
		}
	}
}

// DOC.md, Rules 4 and 5, and lines of tokens separated by single spaces
func TestModuleIsLeftAlone(t *testing.T) {
	for _, m := range append(invalid(), sample()) {
		before := verify.Clone(m)
		text, d := printer.Module(m)
		again, dAgain := printer.Module(m)
		for fn := range m.Funcs {
			printer.Func(m, fn)
		}
		if !reflect.DeepEqual(m, before) || again != text || dAgain != d {
			t.Error("the module was changed, or its text")
		}
		for line := range strings.Lines(text) {
			tokens, _, err := lexer.Scan(line)
			if err != api.OK || lexer.Join(tokens)+"\n" != line {
				t.Errorf("line %q", line)
			}
		}
	}
}

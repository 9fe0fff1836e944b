package printer_test

import (
	"strings"
	"testing"

	"burnish/api"
	"burnish/printer"
	"burnish/verify"
)

var tooLong = api.Diagnostic{Code: api.ErrLong}

// calling returns a function that calls function 0, with registers of a type that are not used, and its text.
func calling(name string, calls, registers int, ty api.Type, typeName string) (api.Func, string) {
	f := api.Func{Name: name, Regs: make([]api.Type, registers), Blocks: []api.Block{{Term: api.Terminator{Kind: api.Return}}}}
	for i := range f.Regs {
		f.Regs[i] = ty
	}
	for range calls {
		f.Blocks[0].Instrs = append(f.Blocks[0].Instrs, api.Instr{Op: api.OpCall, Dst: -1})
	}
	return f, "func " + name + " ( ) void\nregs" + strings.Repeat(" "+typeName, registers) + "\nblock 0 ( )\n" + strings.Repeat("call ( ) f\n", calls) + "return ( )\n"
}

// withBytes returns a module of which the text has the given number of bytes, and the texts of its two functions.
func withBytes(bytes, inFirst int) (api.Module, []string) {
	f, first := calling("f", 0, 0, api.Void, "")
	_, rest := calling("g", api.MaxInstrs, 0, api.Void, "")
	missing := bytes - inFirst*len(first) - len(rest)
	g, last := calling("g"+strings.Repeat("x", missing%5), api.MaxInstrs, missing/5, api.Bool, "bool")
	return api.Module{Funcs: []api.Func{f, g}}, []string{first, last}
}

// withTokens is like withBytes, for tokens.
func withTokens(tokens, inFirst int) (api.Module, []string) {
	f, first := calling("f", 0, 0, api.Void, "")
	_, rest := calling("g", api.MaxInstrs, 0, api.Void, "")
	missing := tokens - inFirst*countTokens(first) - countTokens(rest)
	g, last := calling("g", api.MaxInstrs, missing, api.I8, "i8")
	return api.Module{Funcs: []api.Func{f, g}}, []string{first, last}
}

func countTokens(text string) int {
	return len(strings.Fields(text))
}

// expectUpTo checks what has the given text, if that is not too long, or else is too long.
func expectUpTo(t *testing.T, text string, got string, d api.Diagnostic) {
	t.Helper()
	long := len(text) > api.MaxText || countTokens(text) > api.MaxTokens
	if long && (got != "" || d != tooLong) || !long && (got != text || d != api.Diagnostic{}) {
		t.Errorf("%d bytes, %d tokens: %d bytes, %+v", len(text), countTokens(text), len(got), d)
	}
}

// P15.1: at the limits of bytes and tokens
func TestLongModules(t *testing.T) {
	for more := -3; more <= 3; more++ {
		m, texts := withBytes(api.MaxText+more, 1)
		text := texts[0] + texts[1]
		if len(text) != api.MaxText+more || countTokens(text) > api.MaxTokens {
			t.Fatal(len(text), countTokens(text))
		}
		got, d := printer.Module(m)
		expectUpTo(t, text, got, d)
		m, texts = withTokens(api.MaxTokens+more, 1)
		text = texts[0] + texts[1]
		if countTokens(text) != api.MaxTokens+more || len(text) > api.MaxText {
			t.Fatal(len(text), countTokens(text))
		}
		got, d = printer.Module(m)
		expectUpTo(t, text, got, d)
	}
}

// P15.2: it is the text of the function alone that counts.
func TestLongFuncs(t *testing.T) {
	for more := -3; more <= 3; more++ {
		for _, with := range []func() (api.Module, []string){
			func() (api.Module, []string) { return withBytes(api.MaxText+more, 0) },
			func() (api.Module, []string) { return withTokens(api.MaxTokens+more, 0) },
		} {
			m, texts := with()
			for fn, text := range texts {
				got, d := printer.Func(m, fn)
				expectUpTo(t, text, got, d)
			}
			expectModule(t, "with function f", m, "", tooLong)
		}
	}
}

// P15.1: what is not valid is not too long.
func TestLongAndInvalid(t *testing.T) {
	m, _ := withBytes(api.MaxText+1, 0)
	m.Funcs[1].Blocks[0].Term.Kind = 0
	want := verify.Module(m)
	expectModule(t, "invalid", m, "", want)
	expectFunc(t, "invalid", m, 1, "", want)
	expectFunc(t, "invalid", m, 9, "", want)
}

// P15.1: the globals count, too.
func TestLongGlobals(t *testing.T) {
	m := api.Module{Globals: make([]api.Global, api.MaxGlobals)}
	text := ""
	for i := range m.Globals {
		name := strings.Repeat("g", i%24+1)[:i%24] + string(rune('A'+i))
		if i >= 26 {
			name = "x" + string(rune('A'+i-26))
		}
		m.Globals[i] = api.Global{Name: name, Elem: api.I64, Len: api.MaxCells, Init: make([]int64, api.MaxCells)}
		text += "global " + name + " i64 256 =" + strings.Repeat(" 0", api.MaxCells) + "\n"
	}
	expectModule(t, "zeros", m, text, api.Diagnostic{})
	for i := range m.Globals {
		for j := range m.Globals[i].Init {
			m.Globals[i].Init[j] = 123456789
		}
	}
	if d := verify.Module(m); d != (api.Diagnostic{}) {
		t.Fatal(d)
	}
	expectModule(t, "many digits", m, "", tooLong)
}

// DOC.md, Rule 1: a valid module with edges of many millions of operands has no text, and that is soon known.
func TestVastModule(t *testing.T) {
	f := api.Func{Name: "f", Regs: make([]api.Type, api.MaxRegs), Blocks: make([]api.Block, api.MaxBlocks)}
	all := make([]int, api.MaxRegs)
	for i := range all {
		all[i], f.Regs[i] = i, api.I32
	}
	cases, succs := make([]int64, api.MaxCases), make([]api.Edge, api.MaxCases+1)
	for i := range succs {
		succs[i] = edge(1+i, all...)
	}
	for i := range cases {
		cases[i] = int64(i)
	}
	for i := range f.Blocks {
		if i > 0 {
			f.Blocks[i].Params = all
		}
		f.Blocks[i].Term = api.Terminator{Kind: api.Switch, Args: []int{0}, Cases: cases, Succs: succs}
	}
	m := api.Module{Funcs: []api.Func{f}}
	expectModule(t, "vast", m, "", tooLong)
	expectFunc(t, "vast", m, 0, "", tooLong)
}

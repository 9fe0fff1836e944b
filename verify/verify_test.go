package verify_test

import (
	"math"
	"math/rand"
	"reflect"
	"strconv"
	"strings"
	"testing"

	"burnish/api"
	"burnish/verify"
)

// The examples
func TestExamples(t *testing.T) {
	f := api.Func{Name: "f", Params: []int{0}, Result: api.I32, Regs: []api.Type{api.I32}, Blocks: []api.Block{ending(result(0))}}
	expectFirst(t, "example", api.Module{Funcs: []api.Func{f}}, api.Diagnostic{})
	f.Result = api.I64
	expectFirst(t, "another result", api.Module{Funcs: []api.Func{f}}, api.Diagnostic{Code: api.ErrType, Part: api.PartFunc})
	a := api.Global{Name: "a", Elem: api.I8, Len: 1}
	expectFirst(t, "name twice", api.Module{Globals: []api.Global{a, a}}, api.Diagnostic{Code: api.ErrDup, Part: api.PartGlobal, Index: 1, Block: -1, Instr: -1})
}

func changes() []change {
	return append(append(globalsWithErrors(), signaturesWithErrors()...), bodiesWithErrors()...)
}

// P14.1, P14.2
func TestValid(t *testing.T) {
	expectFirst(t, "no globals, no functions", api.Module{}, api.Diagnostic{})
	expectFirst(t, "globals", api.Module{Globals: sample().Globals}, api.Diagnostic{})
	expectFirst(t, "sample", sample(), api.Diagnostic{})
}

// P14.1, P14.2
func TestErrors(t *testing.T) {
	for i, c := range changes() {
		m := sample()
		c.apply(&m)
		expectFirst(t, strconv.Itoa(i)+" "+c.why, m, c.want)
	}
}

// P14.1, P14.2: of two errors the first is reported. The change that it comes from is
// applied last, so that the other one does not undo it.
func TestOrderOfErrors(t *testing.T) {
	all := changes()
	for i, first := range all {
		for j, second := range all[i+1:] {
			m := sample()
			second.apply(&m)
			first.apply(&m)
			expectFirst(t, strconv.Itoa(i)+" "+first.why+" before "+strconv.Itoa(i+1+j)+" "+second.why, m, first.want)
		}
	}
}

// P14.1: if the parameter of a later block is no register, the edge to it has the error first.
func TestEdgesToParametersThatAreNone(t *testing.T) {
	for _, r := range []int{-1, 8, math.MinInt, math.MaxInt} {
		m := sample()
		m.Funcs[work].Blocks[loop].Params[1] = r
		expectFirst(t, "parameter", m, inBlock(entry, entryEnd, api.ErrType))
		m.Funcs[work].Blocks[entry].Term.Succs[0].Args[1] = r
		expectFirst(t, "operand and parameter", m, inBlock(entry, entryEnd, api.ErrRange))
	}
	m := sample()
	m.Funcs[work].Blocks[exit].Params = []int{n32, n32}
	m.Funcs[work].Blocks[entry].Term.Succs[1].Args = []int{x, x}
	expectFirst(t, "a later parameter twice", m, inBlock(loop, loopEnd, api.ErrShort))
	m.Funcs[work].Blocks[loop].Term.Succs[1].Args = []int{x, x}
	expectFirst(t, "a parameter twice", m, inBlock(exit, -1, api.ErrDup))
}

// P14.1: what just keeps to the limits
func TestLimits(t *testing.T) {
	for why, apply := range map[string]func(m *api.Module){
		"globals":             func(m *api.Module) { m.Globals = manyGlobals(m.Globals, api.MaxGlobals) },
		"functions":           func(m *api.Module) { m.Funcs = manyFuncs(m.Funcs, api.MaxFuncs) },
		"name of a global":    func(m *api.Module) { m.Globals[3].Name = strings.Repeat("x", api.MaxName) },
		"name of a function":  func(m *api.Module) { m.Funcs[work].Name = strings.Repeat("_", api.MaxName) },
		"cells":               func(m *api.Module) { m.Globals[0].Len, m.Globals[3].Len = api.MaxCells, 1 },
		"all cells with init": func(m *api.Module) { m.Globals[2].Init = make([]int64, api.MaxCells) },
		"empty init":          func(m *api.Module) { m.Globals[1].Init = []int64{} },
		"parameters":          func(m *api.Module) { m.Funcs[work].Params = []int{5, 4, 3, 2, 1, 0} },
		"registers":           func(m *api.Module) { m.Funcs[work].Regs = registers(m.Funcs[work].Regs, api.MaxRegs) },
		"blocks":              func(m *api.Module) { m.Funcs[work].Blocks = blocks(m.Funcs[work].Blocks, api.MaxBlocks) },
		"instructions":        func(m *api.Module) { addInstrs(m.Funcs[work].Blocks, api.MaxInstrs) },
		"greatest code":       func(m *api.Module) { m.Funcs[work].Blocks[stop].Term.Cases[0] = 255 },
		"cases": func(m *api.Module) {
			term := &m.Funcs[work].Blocks[wide].Term
			term.Cases, term.Succs = nil, []api.Edge{edge(stop)}
			for i := range api.MaxCases {
				term.Cases, term.Succs = append(term.Cases, int64(i)), append(term.Succs, edge(call))
			}
		},
		"no cases": func(m *api.Module) {
			term := &m.Funcs[work].Blocks[wide].Term
			term.Cases, term.Succs = nil, term.Succs[:1]
		},
		"many parameters of a block": func(m *api.Module) {
			f := &m.Funcs[work]
			f.Regs = registers(f.Regs, api.MaxRegs)
			params := make([]int, api.MaxRegs-8)
			for i := range params {
				params[i] = api.MaxRegs - 1 - i
			}
			f.Blocks = append(f.Blocks, api.Block{Params: params, Term: jump(edge(len(f.Blocks), params...))})
		},
	} {
		m := sample()
		apply(&m)
		expectFirst(t, why, m, api.Diagnostic{})
	}
}

// P14.1: every type is one that a register, and every one and Void that a result may have.
func TestAllTypes(t *testing.T) {
	for ty := api.Void; ty <= api.V4; ty++ {
		f := api.Func{Name: "f", Result: ty, Regs: []api.Type{ty}, Params: []int{0}, Blocks: []api.Block{ending(result(0))}}
		if ty == api.Void {
			f.Regs, f.Params, f.Blocks[0].Term.Args = nil, nil, nil
		}
		expectFirst(t, "type "+strconv.Itoa(int(ty)), api.Module{Funcs: []api.Func{f}}, api.Diagnostic{})
	}
}

// P14.2
func TestFuncThatIsNone(t *testing.T) {
	want := api.Diagnostic{Code: api.ErrNotFound, Part: api.PartFunc, Index: -1, Block: -1, Instr: -1}
	modules := []api.Module{{}, sample(), {Globals: make([]api.Global, 33)}, {Funcs: make([]api.Func, 33)}}
	for _, m := range modules {
		for _, fn := range []int{-1, len(m.Funcs), len(m.Funcs) + 1, math.MinInt, math.MaxInt} {
			if got := verify.Func(m, fn); got != want {
				t.Errorf("Func(%d) = %+v", fn, got)
			}
		}
	}
}

// P14.2: the errors in the bodies of other functions do not count, those in signatures do.
func TestFuncLooksAtOneBody(t *testing.T) {
	m := sample()
	m.Funcs[done].Blocks, m.Funcs[work].Blocks[stop].Term.Kind, m.Funcs[last].Blocks[0].Term.Sym = nil, 0, -1
	want := []api.Diagnostic{done: inFunc(done, api.ErrShort), work: inBlock(stop, 1, api.ErrType), last: {Code: api.ErrNotFound, Part: api.PartFunc, Index: last, Instr: 1}}
	for fn := range m.Funcs {
		if got := verify.Func(m, fn); got != want[fn] {
			t.Errorf("Func(%d) = %+v, want %+v", fn, got, want[fn])
		}
	}
	m.Funcs[last].Regs[0] = 9
	for fn := range m.Funcs {
		if got := verify.Func(m, fn); got != inFunc(last, api.ErrType) {
			t.Errorf("Func(%d) = %+v, but the signature of function %d has an error", fn, got, last)
		}
	}
}

// P14.5 and DOC.md, Rules 1 and 4, for modules with any numbers in them
func TestAnyNumbers(t *testing.T) {
	r := rand.New(rand.NewSource(1))
	numbers := []int64{-1, 0, 1, 2, 3, 4, 5, 6, 7, 8, 16, 33, 99, 1 << 40, math.MinInt64, math.MaxInt64}
	valid := 0
	for range 20000 {
		m := sample()
		fields := leaves(reflect.ValueOf(&m).Elem())
		for range 1 + r.Intn(3) {
			field, n := fields[r.Intn(len(fields))], numbers[r.Intn(len(numbers))]
			switch {
			case field.CanInt():
				field.SetInt(n)
			case field.Kind() == reflect.Slice && field.Len() > 0:
				field.Set(field.Slice(0, r.Intn(field.Len()+1)))
			}
		}
		before := verify.Clone(m)
		allValid := true
		for fn := range m.Funcs {
			allValid = allValid && verify.Func(m, fn) == api.Diagnostic{}
		}
		if ok := verify.Module(m) == (api.Diagnostic{}); len(m.Funcs) > 0 && ok != allValid {
			t.Fatalf("Module: %+v, but Func of all functions: %v", verify.Module(m), allValid)
		} else if ok {
			valid++
		}
		if !reflect.DeepEqual(m, before) {
			t.Fatal("the module was changed")
		}
	}
	if valid < 100 || valid > 19900 {
		t.Errorf("%d modules are valid", valid)
	}
}

// P14.5: without functions it is the globals that count
func TestWithoutFunctions(t *testing.T) {
	for _, c := range globalsWithErrors() {
		m := sample()
		c.apply(&m)
		m.Funcs = nil
		expectFirst(t, c.why, m, c.want)
	}
}

// P14.6
func TestFewerFunctions(t *testing.T) {
	m := sample()
	for n := functions; n >= 0; n-- {
		m.Funcs = m.Funcs[:n]
		want := api.Diagnostic{}
		if n == mixed { // the last one removed is called by function work, which is left
			want = inBlock(call, 0, api.ErrNotFound)
		}
		expectFirst(t, strconv.Itoa(n)+" functions", m, want)
	}
	itself := api.Func{Name: "itself", Blocks: []api.Block{{
		Instrs: []api.Instr{{Op: api.OpCall, Dst: -1, Sym: 1}},
		Term:   api.Terminator{Kind: api.TailCall, Sym: 1},
	}}}
	m = api.Module{Funcs: []api.Func{sample().Funcs[done], itself}}
	expectFirst(t, "a call of itself", m, api.Diagnostic{})
	m.Funcs = m.Funcs[:1]
	expectFirst(t, "without it", m, api.Diagnostic{})
}

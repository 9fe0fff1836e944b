package verify_test

import (
	"math"
	"strconv"
	"strings"

	"burnish/api"
)

// A change makes a module invalid in one way.
type change struct {
	why   string
	apply func(m *api.Module)
	want  api.Diagnostic
}

// globalsWithErrors returns changes to the globals, in the order in which their errors are reported.
func globalsWithErrors() []change {
	all := []change{
		{"too many globals", func(m *api.Module) { m.Globals = manyGlobals(m.Globals, api.MaxGlobals+1) }, inGlobal(-1, api.ErrLimit)},
		{"no name", func(m *api.Module) { m.Globals[0].Name = "" }, inGlobal(0, api.ErrName)},
		{"elem void", func(m *api.Module) { m.Globals[0].Elem = api.Void }, inGlobal(0, api.ErrType)},
	}
	for _, i := range []int{2, 3} {
		change := func(why string, code api.Errno, apply func(g *api.Global)) {
			all = append(all, change{why, func(m *api.Module) { apply(&m.Globals[i]) }, inGlobal(i, code)})
		}
		change("long name", api.ErrName, func(g *api.Global) { g.Name = strings.Repeat("x", api.MaxName+1) })
		change("name with a blank", api.ErrName, func(g *api.Global) { g.Name = "a b" })
		change("name twice", api.ErrDup, func(g *api.Global) { g.Name = "link" })
		for _, elem := range []api.Type{-1, api.Void, api.Bool, api.V2, api.V4, 8, math.MinInt, math.MaxInt} {
			change("elem", api.ErrType, func(g *api.Global) { g.Elem = elem })
		}
		for _, n := range []int{0, -1, api.MaxCells + 1, math.MinInt, math.MaxInt} {
			change("len", api.ErrRange, func(g *api.Global) { g.Len = n })
		}
		change("init too long", api.ErrLong, func(g *api.Global) { g.Init = make([]int64, g.Len+1) })
		change("init of pointers", api.ErrType, func(g *api.Global) { g.Elem = api.Ptr })
	}
	return append(all,
		change{"init out of range", func(m *api.Module) { m.Globals[3].Elem, m.Globals[3].Init = api.I32, []int64{math.MaxInt32 + 1} }, inGlobal(3, api.ErrRange)},
		change{"init out of range", func(m *api.Module) { m.Globals[3].Elem, m.Globals[3].Init = api.I8, []int64{-129} }, inGlobal(3, api.ErrRange)},
		change{"last of init out of range", func(m *api.Module) {
			m.Globals[3] = api.Global{Name: "wide", Elem: api.I8, Len: 3, Init: []int64{0, 1, 128}}
		}, inGlobal(3, api.ErrRange)},
	)
}

func manyGlobals(globals []api.Global, n int) []api.Global {
	for len(globals) < n {
		globals = append(globals, api.Global{Name: "g" + strconv.Itoa(len(globals)), Elem: api.I8, Len: 1})
	}
	return globals
}

func manyFuncs(funcs []api.Func, n int) []api.Func {
	for len(funcs) < n {
		funcs = append(funcs, api.Func{Name: "f" + strconv.Itoa(len(funcs)), Blocks: []api.Block{ending(result())}})
	}
	return funcs
}

// signaturesWithErrors returns changes to the signatures, in the order in which their errors are reported.
func signaturesWithErrors() []change {
	all := []change{
		{"too many functions", func(m *api.Module) { m.Funcs = manyFuncs(m.Funcs, api.MaxFuncs+1) }, inFunc(-1, api.ErrLimit)},
		{"name", func(m *api.Module) { m.Funcs[done].Name = "0" }, inFunc(done, api.ErrName)},
		{"result", func(m *api.Module) { m.Funcs[done].Result = 8 }, inFunc(done, api.ErrType)},
	}
	for _, i := range []int{work, last} {
		change := func(why string, code api.Errno, apply func(f *api.Func)) {
			all = append(all, change{why, func(m *api.Module) { apply(&m.Funcs[i]) }, inFunc(i, code)})
		}
		change("no name", api.ErrName, func(f *api.Func) { f.Name = "" })
		change("long name", api.ErrName, func(f *api.Func) { f.Name = strings.Repeat("x", api.MaxName+1) })
		change("name that is none", api.ErrName, func(f *api.Func) { f.Name = "a-b" })
		change("name twice", api.ErrDup, func(f *api.Func) { f.Name = "same" })
		for _, t := range []api.Type{-1, 8, math.MinInt, math.MaxInt} {
			change("result", api.ErrType, func(f *api.Func) { f.Result = t })
		}
		change("too many parameters", api.ErrLimit, func(f *api.Func) { f.Params = make([]int, api.MaxParams+1) })
		change("too many registers", api.ErrLimit, func(f *api.Func) { f.Regs = registers(f.Regs, api.MaxRegs+1) })
		change("too many registers of no type", api.ErrLimit, func(f *api.Func) { f.Regs = make([]api.Type, api.MaxRegs+1) })
		for _, t := range []api.Type{-1, api.Void, 8, math.MinInt, math.MaxInt} {
			change("register", api.ErrType, func(f *api.Func) { f.Regs[0] = t })
			change("last register", api.ErrType, func(f *api.Func) { f.Regs[len(f.Regs)-1] = t })
		}
		for _, r := range []int{-1, 8, math.MinInt, math.MaxInt} {
			change("parameter", api.ErrRange, func(f *api.Func) { f.Params = []int{r} })
			change("second parameter", api.ErrRange, func(f *api.Func) { f.Params = []int{0, r, 0} })
		}
		change("parameter twice", api.ErrDup, func(f *api.Func) { f.Params = []int{0, 0, -1} })
	}
	return all
}

func registers(regs []api.Type, n int) []api.Type {
	for len(regs) < n {
		regs = append(regs, api.I32)
	}
	return regs
}

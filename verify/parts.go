package verify

import (
	"burnish/api"
	"burnish/intn"
	"burnish/lexer"
	"burnish/opcode"
)

func checkGlobals(globals []api.Global) {
	part(api.PartGlobal, -1).failIf(len(globals) > api.MaxGlobals, api.ErrLimit)
	repeated := repeats[string]()
	for i, g := range globals {
		at := part(api.PartGlobal, i)
		at.failIf(!lexer.IsIdent(g.Name), api.ErrName)
		at.failIf(repeated(g.Name), api.ErrDup)
		at.failIf(!isCell(g.Elem), api.ErrType)
		at.failIf(g.Len < 1 || g.Len > api.MaxCells, api.ErrRange)
		at.failIf(len(g.Init) > g.Len, api.ErrLong)
		at.failIf(g.Elem == api.Ptr && len(g.Init) > 0, api.ErrType)
		for _, n := range g.Init {
			at.failIf(!isInteger(n, g.Elem), api.ErrRange)
		}
	}
}

func checkSignatures(funcs []api.Func) {
	part(api.PartFunc, -1).failIf(len(funcs) > api.MaxFuncs, api.ErrLimit)
	repeated := repeats[string]()
	for i, f := range funcs {
		at := part(api.PartFunc, i)
		at.failIf(!lexer.IsIdent(f.Name), api.ErrName)
		at.failIf(repeated(f.Name), api.ErrDup)
		at.failIf(!isType(f.Result), api.ErrType)
		at.failIf(len(f.Params) > api.MaxParams || len(f.Regs) > api.MaxRegs, api.ErrLimit)
		for _, t := range f.Regs {
			at.failIf(!isType(t) || t == api.Void, api.ErrType)
		}
		checkParams(f.Params, f, at)
	}
}

// checkParams checks the parameters of f or of a block of f.
func checkParams(params []int, f api.Func, at place) {
	repeated := repeats[int]()
	for _, r := range params {
		at.failIf(!isIndex(r, len(f.Regs)), api.ErrRange)
		at.failIf(repeated(r), api.ErrDup)
	}
}

// isType reports whether t is one of the types, Void among them.
func isType(t api.Type) bool {
	return opcode.TypeName(t) != ""
}

func isCell(t api.Type) bool {
	_, cells := opcode.Access(t)
	return cells == 1
}

// isInteger reports whether n is an integer of type t.
func isInteger(n int64, t api.Type) bool {
	return intn.Wrap(t, n) == n
}

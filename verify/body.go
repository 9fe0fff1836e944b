package verify

import (
	"burnish/api"
	"burnish/opcode"
)

// A body is a function whose blocks are to be checked. The globals and the signatures of
// its module have been.
type body struct {
	api.Func
	module api.Module
	at     place
}

func checkBody(m api.Module, fn int) {
	f := body{m.Funcs[fn], m, part(api.PartFunc, fn)}
	f.at.failIf(len(f.Blocks) == 0, api.ErrShort)
	f.at.failIf(len(f.Blocks) > api.MaxBlocks || f.instrs() > api.MaxInstrs, api.ErrLimit)
	for i, b := range f.Blocks {
		f.checkBlock(b, f.at.block(i))
	}
}

func (f body) instrs() int {
	return Size(f.Func) - len(f.Blocks)
}

func (f body) checkBlock(b api.Block, at place) {
	at.failIf(at.Block == 0 && len(b.Params) > 0, api.ErrFormat)
	checkParams(b.Params, f.Func, at)
	for i, in := range b.Instrs {
		code := opcode.Check(in, f.Func, f.module)
		at.instr(i).failIf(code != api.OK, code)
	}
	f.checkTerminator(b.Term, at.instr(len(b.Instrs)))
}

func (f body) checkTerminator(t api.Terminator, at place) {
	at.failIf(t.Kind < api.Jump || t.Kind > api.TailCall, api.ErrType)
	at.failIf(t.Kind == api.TailCall && !isIndex(t.Sym, len(f.module.Funcs)), api.ErrNotFound)
	at.failIf(t.Kind == api.Switch && len(t.Cases) > api.MaxCases, api.ErrLimit)
	at.failIf(t.Kind != api.TailCall && t.Sym != 0 || sizesOf(t) != f.requiredSizes(t), api.ErrFormat)
	for i, r := range t.Args {
		at.failIf(!f.isRegister(r), api.ErrRange)
		at.failIf(!f.accepts(t, i, f.Regs[r]), api.ErrType)
	}
	at.failIf(t.Kind == api.TailCall && f.callee(t).Result != f.Result, api.ErrType)
	f.checkCases(t, at)
	for _, e := range t.Succs {
		f.checkEdge(e, at)
	}
}

// sizes are the lengths of a terminator's lists.
type sizes struct {
	args, cases, succs int
}

func sizesOf(t api.Terminator) sizes {
	return sizes{len(t.Args), len(t.Cases), len(t.Succs)}
}

// requiredSizes returns the sizes that a terminator of this kind must have. A switch may have any number of cases.
func (f body) requiredSizes(t api.Terminator) sizes {
	switch t.Kind {
	case api.Jump:
		return sizes{succs: 1}
	case api.Branch:
		return sizes{args: 1, succs: 2}
	case api.Switch:
		return sizes{args: 1, cases: len(t.Cases), succs: len(t.Cases) + 1}
	case api.Trap:
		return sizes{cases: 1}
	case api.TailCall:
		return sizes{args: len(f.callee(t).Params)}
	}
	if f.Result == api.Void {
		return sizes{}
	}
	return sizes{args: 1}
}

// accepts reports whether operand i of a terminator may have type got.
func (f body) accepts(t api.Terminator, i int, got api.Type) bool {
	switch t.Kind {
	case api.Branch:
		return got == api.Bool
	case api.Switch:
		return got == api.I32 || got == api.I64
	case api.TailCall:
		callee := f.callee(t)
		return got == callee.Regs[callee.Params[i]]
	}
	return got == f.Result
}

// callee returns the function that a tail call calls.
func (f body) callee(t api.Terminator) api.Func {
	return f.module.Funcs[t.Sym]
}

func (f body) checkCases(t api.Terminator, at place) {
	repeated := repeats[int64]()
	for _, n := range t.Cases {
		if t.Kind == api.Switch {
			at.failIf(!isInteger(n, f.Regs[t.Args[0]]), api.ErrRange)
		} else {
			at.failIf(n < 16 || n > 255, api.ErrRange)
		}
		at.failIf(repeated(n), api.ErrDup)
	}
}

func (f body) checkEdge(e api.Edge, at place) {
	at.failIf(!isIndex(e.Block, len(f.Blocks)), api.ErrNotFound)
	at.failIf(e.Block == 0, api.ErrFormat)
	params := f.Blocks[e.Block].Params
	at.failIf(len(e.Args) < len(params), api.ErrShort)
	at.failIf(len(e.Args) > len(params), api.ErrLong)
	for i, r := range e.Args {
		at.failIf(!f.isRegister(r), api.ErrRange)
		// The target block may come later: its parameters have not been checked.
		at.failIf(!f.isRegister(params[i]) || f.Regs[params[i]] != f.Regs[r], api.ErrType)
	}
}

func (f body) isRegister(r int) bool {
	return isIndex(r, len(f.Regs))
}

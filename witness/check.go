package witness

import (
	"slices"

	"burnish/api"
	"burnish/expr"
	"burnish/verify"
)

// Check returns the first error of w as a witness for function fn of the modules src and dst, or OK.
func Check(src, dst api.Module, fn int, w api.Witness) api.Errno {
	switch {
	case !correspond(src, dst) || !isIndex(fn, len(src.Funcs)):
		return api.ErrArg
	case hasTooMany(w):
		return api.ErrLimit
	case len(w.CutPoints) == 0 || !equalCutPoint(w.CutPoints[0], api.CutPoint{}):
		return api.ErrNotFound
	}
	c := checker{src: src, f: src.Funcs[fn], g: dst.Funcs[fn], cut: map[int]bool{}, cutPoints: len(w.CutPoints)}
	if err := firstError(w.CutPoints, c.cutPoint); err != api.OK {
		return err
	}
	return firstError(w.Paths, c.path)
}

// correspond reports whether two modules are valid and differ in the bodies of their functions only.
func correspond(src, dst api.Module) bool {
	return isValid(src) && isValid(dst) &&
		verify.Equal(api.Module{Globals: src.Globals}, api.Module{Globals: dst.Globals}) &&
		slices.EqualFunc(src.Funcs, dst.Funcs, sameSignature)
}

func isValid(m api.Module) bool {
	return verify.Module(m) == api.Diagnostic{}
}

func sameSignature(a, b api.Func) bool {
	return a.Name == b.Name && a.Result == b.Result && slices.Equal(paramTypes(a), paramTypes(b))
}

// paramTypes returns the types of the parameters of a valid function.
func paramTypes(f api.Func) []api.Type {
	var types []api.Type
	for _, r := range f.Params {
		types = append(types, f.Regs[r])
	}
	return types
}

// firstError returns the first error that check finds in a list, or OK.
func firstError[T any](list []T, check func(T) api.Errno) api.Errno {
	for _, x := range list {
		if err := check(x); err != api.OK {
			return err
		}
	}
	return api.OK
}

// A checker checks the parts of a witness one after the other.
type checker struct {
	src       api.Module
	f, g      api.Func     // the function of the source and that of the target
	cut       map[int]bool // the blocks of g that have a cut point so far
	cutPoints int
}

func (c checker) cutPoint(p api.CutPoint) api.Errno {
	switch {
	case !isIndex(p.Target, len(c.g.Blocks)) || !isIndex(p.Source, len(c.f.Blocks)):
		return api.ErrNotFound
	case c.cut[p.Target]:
		return api.ErrDup
	}
	c.cut[p.Target] = true
	told := map[subject]bool{}
	return firstError(p.Invariants, func(inv api.Invariant) api.Errno {
		repeated := told[subjectOf(inv)]
		told[subjectOf(inv)] = true
		return c.invariant(inv, repeated)
	})
}

func (c checker) invariant(inv api.Invariant, repeated bool) api.Errno {
	regs := c.g.Regs
	if inv.OfSource {
		regs = c.f.Regs
	}
	switch {
	case inv.Exact && !inv.OfSource:
		return api.ErrFormat
	case !isIndex(inv.Reg, len(regs)):
		return api.ErrNotFound
	case repeated:
		return api.ErrDup
	case len(inv.Expr) > api.MaxExprLen:
		return api.ErrLong
	}
	t, err := expr.Check(inv.Expr, c.f, c.src)
	if err == api.OK && t != regs[inv.Reg] {
		return api.ErrType
	}
	return err
}

func (c checker) path(p api.Path) api.Errno {
	toEnd := p.End == theEnd
	switch {
	case !isIndex(p.Start, c.cutPoints) || !toEnd && !isIndex(p.End, c.cutPoints):
		return api.ErrNotFound
	case len(p.Target) == 0 || len(p.Source) == 0:
		return api.ErrShort
	case len(p.Target) > api.MaxPathLen || len(p.Source) > api.MaxPathLen:
		return api.ErrLong
	case !isRoute(p.Target, toEnd) || !isRoute(p.Source, toEnd):
		return api.ErrPath
	}
	return api.OK
}

// isRoute reports whether a list consists of indices of successors, and then of theEnd if toEnd is set.
func isRoute(list []int, toEnd bool) bool {
	if toEnd {
		last := len(list) - 1
		if list[last] != theEnd {
			return false
		}
		list = list[:last]
	}
	return !slices.ContainsFunc(list, func(index int) bool { return index < 0 })
}

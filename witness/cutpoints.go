package witness

import (
	"slices"

	"burnish/api"
	"burnish/cfg"
	"burnish/domtree"
	"burnish/expr"
	"burnish/liveness"
)

// CutPoints returns a cut point for each pair of a block of dst with one of src, with
// the invariants that extra and regs, the register of src for each one of dst, give
// for it. It returns nil if the blocks are not such pairs.
func CutPoints(src, dst api.Func, target, source, regs []int, extra []api.Invariant) []api.CutPoint {
	if len(target) != len(source) || !areIndices(target, len(dst.Blocks)) || !areIndices(source, len(src.Blocks)) {
		return nil
	}
	r := newRelation(src, dst, regs, extra)
	points := make([]api.CutPoint, len(target))
	for i := range points {
		points[i] = api.CutPoint{Target: target[i], Source: source[i]}
		if target[i] != 0 || source[i] != 0 {
			points[i].Invariants = r.invariants(target[i], source[i])
		}
	}
	return points
}

func areIndices(list []int, length int) bool {
	return !slices.ContainsFunc(list, func(i int) bool { return !isIndex(i, length) })
}

// A relation is what the invariants of all cut points are made from.
type relation struct {
	src, dst api.Func
	idom     []int       // the dominator tree of src
	defs     [][]api.Pos // the positions of src that write each register
	live     [][]bool    // for each block of dst, which registers are live at its start
	regs     []int
	extra    []api.Invariant
	mentions [][]int // for each of extra, the registers of src that must be available for it
}

func newRelation(src, dst api.Func, regs []int, extra []api.Invariant) relation {
	r := relation{
		src: src, dst: dst, regs: regs, extra: extra,
		idom: domtree.Build(cfg.Graph(src), 0), defs: cfg.Defs(src), live: liveness.In(dst),
	}
	for _, inv := range extra {
		mentioned := expr.Regs(inv.Expr)
		if inv.OfSource {
			mentioned = append(mentioned, inv.Reg)
		}
		r.mentions = append(r.mentions, mentioned)
	}
	return r
}

// invariants returns the invariants for a block of dst and a block of src that are not both the first one.
func (r relation) invariants(target, source int) []api.Invariant {
	available := r.availableAt(source)
	usable := r.usable(available)
	of := map[subject]api.Invariant{}
	for _, inv := range usable {
		of[subjectOf(inv)] = inv
	}
	var list []api.Invariant
	for reg, isWanted := range r.wanted(target) {
		if !isWanted {
			continue
		}
		if inv, found := of[subject{reg: reg}]; found {
			list = append(list, duplicate(inv))
		} else if r.isCopied(reg) && available(r.regs[reg]) {
			list = append(list, api.Invariant{Reg: reg, Expr: expr.Reg(r.regs[reg])})
		}
	}
	for _, inv := range usable {
		if inv.OfSource {
			list = append(list, duplicate(inv))
		}
	}
	return list
}

// wanted reports for each register of dst whether a cut point at the block needs to say what it holds.
func (r relation) wanted(block int) []bool {
	wanted := slices.Clone(r.live[block])
	for _, param := range r.dst.Blocks[block].Params {
		if isIndex(param, len(wanted)) {
			wanted[param] = true
		}
	}
	return wanted
}

// isCopied reports whether regs names a register of src that has the type of register reg of dst.
func (r relation) isCopied(reg int) bool {
	return reg < len(r.regs) && isIndex(r.regs[reg], len(r.src.Regs)) && r.src.Regs[r.regs[reg]] == r.dst.Regs[reg]
}

// usable returns those of extra whose registers are all available, of several about one register the first.
func (r relation) usable(available func(reg int) bool) []api.Invariant {
	told := map[subject]bool{}
	var list []api.Invariant
	for i, inv := range r.extra {
		if told[subjectOf(inv)] || slices.ContainsFunc(r.mentions[i], func(reg int) bool { return !available(reg) }) {
			continue
		}
		told[subjectOf(inv)] = true
		list = append(list, inv)
	}
	return list
}

// availableAt returns a function that reports whether a register of src is available at
// a block. It climbs the dominator tree once, where domtree.Dominates would for each register.
func (r relation) availableAt(block int) func(reg int) bool {
	dominates := make([]bool, len(r.src.Blocks))
	if isReachable(r.idom, block) {
		for above := block; !dominates[above]; above = r.idom[above] {
			dominates[above] = true
		}
	}
	return func(reg int) bool {
		if !isIndex(reg, len(r.defs)) || len(r.defs[reg]) != 1 {
			return false
		}
		def := r.defs[reg][0]
		return dominates[def.Block] && (def.Block != block || def.Index == -1)
	}
}

// isReachable reports whether a block is in the dominator tree of its function.
func isReachable(idom []int, block int) bool {
	return block < len(idom) && idom[block] >= 0
}

// duplicate returns a copy of an invariant that shares no memory with it.
func duplicate(inv api.Invariant) api.Invariant {
	inv.Expr = slices.Clone(inv.Expr)
	return inv
}

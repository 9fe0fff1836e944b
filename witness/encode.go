package witness

import (
	"slices"

	"burnish/api"
	"burnish/varint"
)

// What the flag of an invariant is the sum of.
const (
	flagOfSource = 1
	flagExact    = 2
)

// Encode returns the encoding of w, or nil and ErrLimit if a part of w is longer than it may be.
func Encode(w api.Witness) ([]byte, api.Errno) {
	if isTooLarge(w) {
		return nil, api.ErrLimit
	}
	e := &encoder{}
	putList(e, w.Expand, e.position)
	putList(e, w.CutPoints, e.cutPoint)
	putList(e, w.Paths, e.path)
	return e.bytes, api.OK
}

// isTooLarge reports whether a list in w is longer than it may be.
func isTooLarge(w api.Witness) bool {
	return hasTooMany(w) ||
		slices.ContainsFunc(w.CutPoints, func(p api.CutPoint) bool {
			return len(p.Invariants) > maxInvariants || slices.ContainsFunc(p.Invariants, func(inv api.Invariant) bool {
				return len(inv.Expr) > api.MaxExprLen
			})
		}) ||
		slices.ContainsFunc(w.Paths, func(p api.Path) bool {
			return len(p.Target) > api.MaxPathLen || len(p.Source) > api.MaxPathLen
		})
}

// An encoder writes the parts of a witness one behind the other.
type encoder struct {
	bytes []byte
}

// putList writes the length of a list and then each element.
func putList[T any](e *encoder, list []T, put func(T)) {
	e.put(len(list))
	for _, x := range list {
		put(x)
	}
}

// put writes integers. It encodes them apart from what is there already, which varint would copy each time.
func (e *encoder) put(numbers ...int) {
	for _, n := range numbers {
		e.bytes = append(e.bytes, varint.AppendInt(nil, n)...)
	}
}

func (e *encoder) putInts(list []int) {
	e.bytes = append(e.bytes, varint.AppendInts(nil, list)...)
}

func (e *encoder) position(at api.Pos) {
	e.put(at.Block, at.Index)
}

func (e *encoder) cutPoint(p api.CutPoint) {
	e.put(p.Target, p.Source)
	putList(e, p.Invariants, e.invariant)
}

func (e *encoder) invariant(inv api.Invariant) {
	flag := 0
	if inv.OfSource {
		flag += flagOfSource
	}
	if inv.Exact {
		flag += flagExact
	}
	e.put(flag, inv.Reg)
	putList(e, inv.Expr, e.node)
}

func (e *encoder) node(node api.ExprNode) {
	e.put(node.Op, int(node.Type), int(node.N))
}

func (e *encoder) path(p api.Path) {
	e.put(p.Start)
	e.putInts(p.Target)
	e.putInts(p.Source)
	e.put(p.End)
}

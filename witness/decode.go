package witness

import (
	"burnish/api"
	"burnish/varint"
)

// Decode returns the witness whose encoding is b, or the zero witness and the first error in b.
func Decode(b []byte) (api.Witness, api.Errno) {
	d := &decoder{Reader: varint.NewReader(b)}
	w := api.Witness{
		Expand:    readList(d, maxExpand, d.position),
		CutPoints: readList(d, api.MaxCutPoints, d.cutPoint),
		Paths:     readList(d, api.MaxPaths, d.path),
	}
	if err := d.failure(); err != api.OK {
		return api.Witness{}, err
	}
	if d.Len() > 0 {
		return api.Witness{}, api.ErrLong
	}
	return w, api.OK
}

// A decoder reads the parts of a witness. Once its Reader has failed, all that it
// reads is zero, in which it finds no fault.
type decoder struct {
	*varint.Reader
	fault api.Errno // the first error of a number or a list that could be read
}

func (d *decoder) failure() api.Errno {
	if d.fault != api.OK {
		return d.fault
	}
	return d.Err()
}

// failIf keeps err as the fault if the condition holds and there is no earlier fault.
func (d *decoder) failIf(condition bool, err api.Errno) {
	if condition && d.fault == api.OK {
		d.fault = err
	}
}

// readList reads the length of a list, at most limit, and then each element, up to the first error.
func readList[T any](d *decoder, limit int, read func() T) []T {
	n := d.Int()
	d.failIf(n < 0 || n > limit, api.ErrLimit)
	var list []T
	for len(list) < n && d.failure() == api.OK {
		list = append(list, read())
	}
	return list
}

func (d *decoder) indices() []int {
	list := d.Ints()
	d.failIf(len(list) > api.MaxPathLen, api.ErrLimit)
	return list
}

func (d *decoder) position() api.Pos {
	return api.Pos{Block: d.Int(), Index: d.Int()}
}

func (d *decoder) cutPoint() api.CutPoint {
	return api.CutPoint{Target: d.Int(), Source: d.Int(), Invariants: readList(d, maxInvariants, d.invariant)}
}

func (d *decoder) invariant() api.Invariant {
	flag := d.Int()
	d.failIf(flag < 0 || flag > flagOfSource+flagExact, api.ErrFormat)
	return api.Invariant{
		OfSource: flag&flagOfSource != 0,
		Exact:    flag&flagExact != 0,
		Reg:      d.Int(),
		Expr:     readList(d, api.MaxExprLen, d.node),
	}
}

func (d *decoder) node() api.ExprNode {
	return api.ExprNode{Op: d.Int(), Type: api.Type(d.Int()), N: int64(d.Int())}
}

func (d *decoder) path() api.Path {
	return api.Path{Start: d.Int(), Target: d.indices(), Source: d.indices(), End: d.Int()}
}

package memory

import (
	"burnish/api"
	"burnish/opcode"
	"burnish/value"
)

// An object is a global or a stack object. One without cells does not exist any more.
type object struct {
	cells
	readOnly bool
}

// cells are values of one cell type, one behind the other.
type cells struct {
	elem   api.Type
	values []api.Value
}

// poisonCells returns n cells that nobody has written yet.
func poisonCells(elem api.Type, n int) cells {
	c := cells{elem, make([]api.Value, n)}
	for i := range c.values {
		c.values[i] = value.Poison(elem)
	}
	return c
}

// initialCells returns the cells of a global, of which the first are given.
func initialCells(g api.Global, given []api.Value) cells {
	c := poisonCells(g.Elem, g.Len)
	for i, n := range g.Init {
		c.values[i] = value.Int(g.Elem, n)
	}
	copy(c.values, given)
	return c
}

// fits reports whether the cells of a global may be given so.
func fits(given []api.Value, g api.Global) bool {
	for _, v := range given {
		if v.Type != g.Elem || !value.Valid(v) {
			return false
		}
	}
	return len(given) <= g.Len
}

// span returns the cells that an access of type t at an offset reaches, or nil if they are not of its kind or not all there.
func (c cells) span(offset int64, t api.Type) []api.Value {
	elem, n := opcode.Access(t)
	if elem != c.elem || offset < 0 || offset > int64(len(c.values)-n) {
		return nil
	}
	return c.values[offset : offset+int64(n)]
}

// read returns the value of type t at an offset.
func (c cells) read(offset int64, t api.Type) (v api.Value, ok bool) {
	span := c.span(offset, t)
	if span == nil {
		return api.Value{}, false
	}
	v = api.Value{Type: t, Object: span[0].Object}
	for i, cell := range span {
		v.Lanes[i] = cell.Lanes[0]
	}
	return v, true
}

// write writes a value, a cell for each of its lanes, and reports whether there is room for it.
func (c cells) write(offset int64, v api.Value) bool {
	span := c.span(offset, v.Type)
	for i := range span {
		span[i] = api.Value{Type: c.elem, Object: v.Object, Lanes: [4]api.Lane{v.Lanes[i]}}
	}
	return span != nil
}

package memory_test

import (
	"math"
	"math/rand"
	"testing"

	"burnish/api"
	"burnish/memory"
	"burnish/value"
)

// alloca allocates an object, which must be possible.
func alloca(t *testing.T, x *memory.Memory, elem api.Type, n int) api.Value {
	t.Helper()
	p, ok := x.Alloca(elem, n)
	if !ok {
		t.Fatalf("no object of %d cells of type %d", n, elem)
	}
	return p
}

// P17.4
func TestAlloca(t *testing.T) {
	x := start(t)
	for i, elem := range []api.Type{api.I8, api.I32, api.I64, api.Ptr} {
		if p := alloca(t, x, elem, i+1); p != cellOf(stack+i, 0) {
			t.Errorf("object %d: %v", i, p)
		}
		for cell := range i + 1 {
			expectLoad(t, x, cellOf(stack+i, int64(cell)), value.Poison(elem))
		}
		expectLoadStatus(t, x, cellOf(stack+i, int64(i+1)), elem, 1)
		expectLoadStatus(t, x, cellOf(stack+i, -1), elem, 1)
	}
	large := alloca(t, x, api.I32, api.MaxCells)
	expectStore(t, x, cellOf(large.Object, api.MaxCells-4), of(api.V4, num(1), num(2), num(3), num(4)), 0)
	expectLoad(t, x, cellOf(large.Object, api.MaxCells-1), of(api.I32, num(4)))
	expectLoadStatus(t, x, large, api.I8, 1)
	for _, elem := range []api.Type{math.MinInt, -1, api.Void, api.Bool, api.V2, api.V4, 8, math.MaxInt} {
		expectNoObject(t, x, elem, 1)
	}
	for _, n := range []int{math.MinInt, -1, 0, api.MaxCells + 1, math.MaxInt} {
		expectNoObject(t, x, api.I32, n)
	}
	if next := alloca(t, x, api.I8, 1); next != cellOf(stack+5, 0) {
		t.Errorf("an allocation that failed has taken a number: %v", next)
	}
}

func expectNoObject(t *testing.T, x *memory.Memory, elem api.Type, n int) {
	t.Helper()
	mark := x.Mark()
	if p, ok := x.Alloca(elem, n); ok || p != (api.Value{}) || x.Mark() != mark {
		t.Errorf("%d cells of type %d: %v, %v", n, elem, p, ok)
	}
}

// P17.4: released objects count, and their numbers are not used again.
func TestMaxObjects(t *testing.T) {
	for _, m := range []api.Module{sample(), {}} {
		x := memory.New(m, nil)
		for i := range api.MaxObjects {
			if p := alloca(t, x, api.I8, 1); p != cellOf(len(m.Globals)+i, 0) {
				t.Fatalf("object %d: %v", i, p)
			}
			if i%3 == 0 {
				x.Release(len(m.Globals))
			}
		}
		expectNoObject(t, x, api.I8, 1)
		x.Release(0)
		expectNoObject(t, x, api.I8, 1)
		if x.Mark() != len(m.Globals)+api.MaxObjects {
			t.Errorf("Mark %d", x.Mark())
		}
	}
}

// Example 2, P17.5
func TestRelease(t *testing.T) {
	x := start(t)
	if x.Mark() != stack {
		t.Errorf("Mark %d", x.Mark())
	}
	kept := alloca(t, x, api.I32, 1)
	mark := x.Mark()
	first, second := alloca(t, x, api.I32, 4), alloca(t, x, api.I64, 1)
	if first.Object != mark || x.Mark() != mark+2 {
		t.Errorf("Mark %d and %d, first object %v", mark, x.Mark(), first)
	}
	expectStore(t, x, kept, of(api.I32, num(3)), 0)
	x.Release(mark + 1)
	expectLoad(t, x, first, of(api.I32, poison))
	expectLoadStatus(t, x, second, api.I64, 1)
	x.Release(mark)
	for _, ty := range []api.Type{api.I32, api.V2, api.V4, api.I64} {
		expectLoadStatus(t, x, first, ty, 1)
	}
	expectStore(t, x, first, of(api.I32), 1)
	expectLoad(t, x, kept, of(api.I32, num(3)))
	if next := alloca(t, x, api.I32, 1); next.Object != mark+2 || x.Mark() != mark+3 {
		t.Errorf("the next object is %v", next)
	}
	expectLoadStatus(t, x, first, api.I32, 1)
	expectLoadStatus(t, x, at(first.Object, unknown), api.I32, 3)
}

// P17.5
func TestReleaseOfOtherNumbers(t *testing.T) {
	for _, mark := range []int{math.MinInt, -1, 0, fixed, stack} {
		x := start(t)
		p := alloca(t, x, api.I32, 1)
		x.Release(mark)
		expectLoadStatus(t, x, p, api.I32, 1)
		expectLoad(t, x, cellOf(words, 0), of(api.I32, num(7)))
		expectStore(t, x, cellOf(vectors, 0), of(api.I32, num(7)), 0)
		if x.Mark() != stack+1 || len(x.Globals()) != stack || len(x.Globals()[fixed]) != 5 {
			t.Errorf("Release(%d) has released a global", mark)
		}
	}
	x := start(t)
	p := alloca(t, x, api.I32, 1)
	for _, mark := range []int{p.Object + 1, p.Object + 100, math.MaxInt} {
		x.Release(mark)
		expectLoad(t, x, p, of(api.I32, poison))
	}
	later := alloca(t, x, api.I32, 1) // its number has been a mark before
	expectLoad(t, x, later, of(api.I32, poison))
}

// A place is a cell of an object.
type place struct {
	object int
	offset int64
}

// places returns the cells that an access of type t at p is to.
func places(p api.Value, t api.Type) []place {
	all := []place{{p.Object, p.Lanes[0].N}}
	for i := int64(1); t == api.V2 && i < 2 || t == api.V4 && i < 4; i++ {
		all = append(all, place{p.Object, p.Lanes[0].N + i})
	}
	return all
}

// P17.8, P17.9: what is read is what was written last, cell by cell.
func TestLoadsAfterStores(t *testing.T) {
	r := rand.New(rand.NewSource(1))
	types := []api.Type{api.I8, api.I32, api.I32, api.I64, api.Ptr, api.V2, api.V4}
	lanes := []api.Lane{num(0), num(1), num(-1), num(99), poison, unknown}
	x := start(t)
	for i := range 20 {
		alloca(t, x, types[i%5], 1+i)
	}
	written := map[place]api.Value{}
	stores := 0
	for range 40000 {
		p := cellOf(r.Intn(stack+20), int64(r.Intn(24)-2))
		v := api.Value{Type: types[r.Intn(len(types))]}
		if v.Type == api.Ptr {
			v = cellOf(r.Intn(40)-1, int64(r.Intn(9)))
		} else {
			for i := range value.NumLanes(v.Type) {
				v.Lanes[i] = lanes[r.Intn(len(lanes))]
			}
		}
		got, status := x.Load(p, v.Type)
		for i, c := range places(p, v.Type) {
			last, ok := written[c]
			if status == 0 && ok && (got.Lanes[i] != last.Lanes[0] || got.Object != last.Object) {
				t.Fatalf("Load of type %d at %v: %v, but %v was written to cell %d", v.Type, p, got, last, i)
			}
		}
		stored := x.Store(p, v)
		if stored != status && p.Object != fixed {
			t.Fatalf("type %d at %v: Load has status %d, Store %d", v.Type, p, status, stored)
		}
		if stored != 0 {
			continue
		}
		stores++
		for i, c := range places(p, v.Type) {
			written[c] = api.Value{Object: v.Object, Lanes: [4]api.Lane{v.Lanes[i]}}
		}
	}
	if stores < 2000 {
		t.Errorf("%d stores", stores)
	}
}

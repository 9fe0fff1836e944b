package memory_test

import (
	"math"
	"reflect"
	"slices"
	"testing"

	"burnish/api"
	"burnish/memory"
	"burnish/value"
)

// The globals of sample, and the number of the first stack object.
const (
	words = iota
	text
	wide
	links
	fixed
	vectors
	stack
)

func sample() api.Module {
	return api.Module{Globals: []api.Global{
		words:   {Name: "words", Elem: api.I32, Len: 2, Init: []int64{7}},
		text:    {Name: "text", Elem: api.I8, Len: 3, Init: []int64{-128, 127, 0}},
		wide:    {Name: "wide", Elem: api.I64, Len: 2, Init: []int64{math.MinInt64}},
		links:   {Name: "links", Elem: api.Ptr, Len: 8},
		fixed:   {Name: "fixed", Elem: api.I32, Len: 5, Init: []int64{1, 2, 3, 4, 5}, ReadOnly: true},
		vectors: {Name: "vectors", Elem: api.I32, Len: api.MaxCells},
	}}
}

var (
	poison  = api.Lane{Poison: true}
	unknown = api.Lane{Unknown: true}
)

func num(n int64) api.Lane {
	return api.Lane{N: n}
}

// of returns the value of a type that is not Ptr with the given lanes.
func of(t api.Type, lanes ...api.Lane) api.Value {
	v := api.Value{Type: t}
	copy(v.Lanes[:], lanes)
	return v
}

// at returns the pointer to an object with the given offset.
func at(object int, offset api.Lane) api.Value {
	return api.Value{Type: api.Ptr, Object: object, Lanes: [4]api.Lane{offset}}
}

// cellOf returns the pointer to a cell of an object.
func cellOf(object int, offset int64) api.Value {
	return at(object, num(offset))
}

// start returns the memory of sample.
func start(t *testing.T, cells ...[]api.Value) *memory.Memory {
	t.Helper()
	x := memory.New(sample(), cells)
	if x == nil {
		t.Fatal("New returned nil")
	}
	return x
}

func expectLoad(t *testing.T, x *memory.Memory, p, want api.Value) {
	t.Helper()
	if v, status := x.Load(p, want.Type); v != want || status != 0 {
		t.Errorf("Load at %v: %v, status %d, want %v", p, v, status, want)
	}
}

func expectLoadStatus(t *testing.T, x *memory.Memory, p api.Value, ty api.Type, want int) {
	t.Helper()
	if v, status := x.Load(p, ty); v != (api.Value{}) || status != want {
		t.Errorf("Load of type %d at %v: %v, status %d, want %d", ty, p, v, status, want)
	}
}

// expectStore checks the status of a Store, and that it writes nothing if that is not 0.
func expectStore(t *testing.T, x *memory.Memory, p, v api.Value, want int) {
	t.Helper()
	before := x.Globals()
	if status := x.Store(p, v); status != want {
		t.Errorf("Store of %v at %v: status %d, want %d", v, p, status, want)
	}
	if want != 0 && !reflect.DeepEqual(x.Globals(), before) {
		t.Errorf("Store of %v at %v has written something", v, p)
	}
}

// Example 1, P17.1
func TestInit(t *testing.T) {
	x := start(t)
	expectLoad(t, x, cellOf(words, 0), of(api.I32, num(7)))
	expectLoad(t, x, cellOf(words, 1), of(api.I32, poison))
	expectLoad(t, x, cellOf(words, 0), of(api.V2, num(7), poison))
	expectLoadStatus(t, x, cellOf(words, 1), api.V2, 1)
	expectLoad(t, x, cellOf(text, 0), of(api.I8, num(-128)))
	expectLoad(t, x, cellOf(text, 1), of(api.I8, num(127)))
	expectLoad(t, x, cellOf(text, 2), of(api.I8, num(0)))
	expectLoad(t, x, cellOf(wide, 0), of(api.I64, num(math.MinInt64)))
	expectLoad(t, x, cellOf(wide, 1), of(api.I64, poison))
	expectLoad(t, x, cellOf(links, 7), of(api.Ptr, poison))
	expectLoad(t, x, cellOf(fixed, 1), of(api.V4, num(2), num(3), num(4), num(5)))
	expectLoad(t, x, cellOf(vectors, api.MaxCells-1), of(api.I32, poison))
}

// P17.1: the cells that are given come before Init.
func TestGivenCells(t *testing.T) {
	everywhere := []api.Value{cellOf(links, 1), cellOf(-1, -5), cellOf(stack+9, math.MaxInt64), at(words, unknown), at(0, poison)}
	x := start(t, []api.Value{of(api.I32, unknown)}, nil, []api.Value{of(api.I64, num(3)), of(api.I64, num(4))}, everywhere, []api.Value{of(api.I32, poison), of(api.I32, num(9))})
	expectLoad(t, x, cellOf(words, 0), of(api.V2, unknown, poison))
	expectLoad(t, x, cellOf(text, 1), of(api.I8, num(127)))
	expectLoad(t, x, cellOf(wide, 0), of(api.I64, num(3)))
	expectLoad(t, x, cellOf(wide, 1), of(api.I64, num(4)))
	for i, p := range everywhere {
		expectLoad(t, x, cellOf(links, int64(i)), p)
	}
	expectLoad(t, x, cellOf(links, 5), value.Poison(api.Ptr))
	expectLoad(t, x, cellOf(fixed, 0), of(api.V4, poison, num(9), num(3), num(4)))
}

// P17.1
func TestNewReturnsNil(t *testing.T) {
	one := of(api.I32, num(1))
	for why, cells := range map[string][][]api.Value{
		"a list too many":         make([][]api.Value, stack+1),
		"a cell too many":         {{one, one, one}},
		"another type":            {{of(api.I8, num(1))}},
		"a vector":                {{of(api.V2, num(1))}},
		"the zero Value":          {{one, {}}},
		"an integer out of range": {{of(api.I32, num(1<<31))}},
		"an object":               {{{Type: api.I32, Object: 1}}},
		"a lane too many":         {{of(api.I32, num(1), num(1))}},
		"poison with a number":    {nil, {of(api.I8, api.Lane{N: 1, Poison: true})}},
		"no such object":          {nil, nil, nil, {cellOf(-2, 0)}},
		"no pointer":              {nil, nil, nil, {of(api.I64)}},
	} {
		if memory.New(sample(), cells) != nil {
			t.Errorf("%s: not nil", why)
		}
	}
	m := sample()
	m.Globals[text].Name = "words"
	if memory.New(m, nil) != nil {
		t.Error("two globals of one name: not nil")
	}
	m = sample()
	m.Funcs = []api.Func{{Name: "f"}}
	if memory.New(m, nil) != nil {
		t.Error("a function without blocks: not nil")
	}
	if memory.New(api.Module{}, [][]api.Value{nil}) != nil {
		t.Error("a list without a global: not nil")
	}
	if memory.New(sample(), make([][]api.Value, stack)) == nil || memory.New(api.Module{}, nil) == nil {
		t.Error("nil")
	}
}

// DOC.md, Rule 4
func TestNewKeepsNothing(t *testing.T) {
	m, cells := sample(), [][]api.Value{{of(api.I32, num(5))}}
	x := memory.New(m, cells)
	expectStore(t, x, cellOf(words, 0), of(api.I32, num(6)), 0)
	expectStore(t, x, cellOf(text, 0), of(api.I8, num(6)), 0)
	if !reflect.DeepEqual(m, sample()) || cells[0][0] != of(api.I32, num(5)) {
		t.Error("Store changes what New was given")
	}
	cells[0][0] = of(api.I32, num(8))
	m.Globals[text].Init[1] = 8
	m.Globals[fixed].ReadOnly = false
	m.Globals[text].Len = 1
	expectLoad(t, x, cellOf(words, 0), of(api.I32, num(6)))
	expectLoad(t, x, cellOf(text, 1), of(api.I8, num(127)))
	expectStore(t, x, cellOf(fixed, 0), of(api.I32, num(6)), 1)
}

// P17.2, P17.3: the first rule that applies
func TestStatuses(t *testing.T) {
	x := start(t)
	noPointer := at(0, poison)
	for _, c := range []struct {
		p    api.Value
		v    api.Value
		want int
	}{
		{of(api.I64, num(0)), of(api.I32), 1}, // not a pointer
		{api.Value{}, of(api.I32), 1},         // nothing
		{cellOf(-2, 0), of(api.I32), 1},       // not a valid pointer
		{api.Value{Type: api.Ptr, Object: 1, Lanes: [4]api.Lane{poison}}, of(api.I32), 1}, // poison with an object
		{noPointer, of(api.Bool), 1}, // not a type of cells, before poison
		{at(words, unknown), of(api.Bool), 1},
		{noPointer, of(api.I32), 2},
		{noPointer, of(api.V4), 2},
		{at(words, unknown), of(api.I32), 3},
		{at(words, unknown), of(api.I64), 3},   // before the type of the cells
		{at(stack+3, unknown), of(api.I32), 3}, // before the existence of the object
		{at(-1, unknown), of(api.I32), 3},
		{at(fixed, unknown), of(api.I32), 3}, // before ReadOnly
		{cellOf(-1, 0), of(api.I32), 1},
		{cellOf(stack, 0), of(api.I32), 1},
		{cellOf(math.MaxInt, 0), of(api.I32), 1},
		{cellOf(words, 0), of(api.I8), 1},
		{cellOf(words, 0), of(api.I64), 1},
		{cellOf(words, 0), noPointer, 1},
		{cellOf(wide, 0), of(api.V2), 1},
		{cellOf(text, 0), of(api.I32), 1},
		{cellOf(links, 0), of(api.I64), 1},
		{cellOf(links, 0), of(api.V4), 1},
		{cellOf(words, 2), of(api.I32), 1},
		{cellOf(words, -1), of(api.I32), 1},
		{cellOf(words, 1), of(api.V2), 1},
		{cellOf(words, -1), of(api.V2), 1},
		{cellOf(words, 0), of(api.V4), 1},
		{cellOf(words, -2), of(api.V4), 1},
		{cellOf(vectors, api.MaxCells), of(api.I32), 1},
		{cellOf(vectors, api.MaxCells-1), of(api.V2), 1},
		{cellOf(vectors, api.MaxCells-3), of(api.V4), 1},
		{cellOf(vectors, math.MaxInt64), of(api.V4), 1},
		{cellOf(vectors, math.MaxInt64-3), of(api.V4), 1},
		{cellOf(vectors, math.MinInt64), of(api.V4), 1},
		{cellOf(vectors, 1<<32), of(api.I32), 1},
		{cellOf(words, 1), of(api.I32), 0},
		{cellOf(words, 0), of(api.V2), 0},
		{cellOf(text, 2), of(api.I8), 0},
		{cellOf(wide, 1), of(api.I64), 0},
		{cellOf(links, 7), noPointer, 0},
		{cellOf(vectors, api.MaxCells-2), of(api.V2), 0},
		{cellOf(vectors, api.MaxCells-4), of(api.V4), 0},
	} {
		expectStore(t, x, c.p, c.v, c.want)
		if c.want == 0 {
			expectLoad(t, x, c.p, c.v)
		} else {
			expectLoadStatus(t, x, c.p, c.v.Type, c.want)
		}
	}
	for _, ty := range []api.Type{math.MinInt, -1, api.Void, api.Bool, 8, math.MaxInt} {
		expectLoadStatus(t, x, cellOf(words, 0), ty, 1)
		expectLoadStatus(t, x, noPointer, ty, 1)
		expectLoadStatus(t, x, at(words, unknown), ty, 1)
	}
}

// P17.3: what only a Store has to heed
func TestStoreStatuses(t *testing.T) {
	x := start(t)
	for _, p := range []api.Value{cellOf(words, 0), at(0, poison), at(words, unknown)} {
		for _, v := range []api.Value{{}, of(api.Void), of(9), of(api.I32, num(1<<31)), of(api.I32, num(0), num(1)), {Type: api.I32, Object: 1}, of(api.V2, num(0), num(0), poison), of(api.I32, api.Lane{Poison: true, Unknown: true})} {
			expectStore(t, x, p, v, 1)
		}
	}
	expectStore(t, x, cellOf(links, 0), cellOf(-2, 0), 1)
	expectStore(t, x, cellOf(fixed, 0), of(api.I32), 1)
	expectStore(t, x, cellOf(fixed, 0), of(api.V4), 1)
	expectStore(t, x, cellOf(fixed, 9), of(api.I32), 1)
	expectLoad(t, x, cellOf(fixed, 0), of(api.V4, num(1), num(2), num(3), num(4)))
}

// P17.3, P17.8, P17.9
func TestStoresOfVectors(t *testing.T) {
	x := start(t)
	expectStore(t, x, cellOf(vectors, 10), of(api.V4, num(1), poison, unknown, num(math.MinInt32)), 0)
	expectLoad(t, x, cellOf(vectors, 9), of(api.V4, poison, num(1), poison, unknown))
	expectLoad(t, x, cellOf(vectors, 13), of(api.V2, num(math.MinInt32), poison))
	expectLoad(t, x, cellOf(vectors, 12), of(api.I32, unknown))
	expectStore(t, x, cellOf(vectors, 11), of(api.V2, num(5), num(-6)), 0)
	expectLoad(t, x, cellOf(vectors, 10), of(api.V4, num(1), num(5), num(-6), num(math.MinInt32)))
	expectStore(t, x, cellOf(vectors, 13), of(api.I32, unknown), 0)
	expectLoad(t, x, cellOf(vectors, 10), of(api.V4, num(1), num(5), num(-6), unknown))
	if v, _ := x.Load(cellOf(vectors, 11), api.V2); v.Object != 0 || v.Lanes[2] != (api.Lane{}) {
		t.Errorf("%v", v)
	}
}

// P17.3, P17.8: pointers keep their objects, whether they exist or not
func TestStoresOfPointers(t *testing.T) {
	x := start(t)
	own, _ := x.Alloca(api.Ptr, 1)
	for _, p := range []api.Value{cellOf(-1, 3), cellOf(words, -4), own, at(stack+5, unknown), at(0, poison)} {
		expectStore(t, x, cellOf(links, 2), p, 0)
		expectLoad(t, x, cellOf(links, 2), p)
		expectStore(t, x, own, p, 0)
		expectLoad(t, x, own, p)
	}
}

// P17.6
func TestGlobals(t *testing.T) {
	x := start(t)
	own, _ := x.Alloca(api.Ptr, 1)
	stored := []api.Value{own, cellOf(-1, 3), cellOf(vectors, -4), cellOf(stack+5, 1), at(stack, unknown), at(fixed, unknown), at(0, poison)}
	for i, p := range stored {
		expectStore(t, x, cellOf(links, int64(i)), p, 0)
	}
	expectStore(t, x, cellOf(words, 1), of(api.I32, unknown), 0)
	all := x.Globals()
	if len(all) != stack {
		t.Fatalf("%d lists", len(all))
	}
	want := []api.Value{cellOf(-1, 0), cellOf(-1, 3), cellOf(vectors, -4), cellOf(-1, 1), at(-1, unknown), at(fixed, unknown), at(0, poison), at(0, poison)}
	if !slices.Equal(all[links], want) {
		t.Errorf("links: %v", all[links])
	}
	if !slices.Equal(all[words], []api.Value{of(api.I32, num(7)), of(api.I32, unknown)}) || len(all[vectors]) != api.MaxCells || all[vectors][255] != of(api.I32, poison) {
		t.Errorf("%v", all)
	}
	for i, p := range stored { // they are hidden in what Globals returns only
		expectLoad(t, x, cellOf(links, int64(i)), p)
	}
	all[words][0], all[links][0] = of(api.I32), cellOf(words, 0)
	all[text] = nil
	expectLoad(t, x, cellOf(words, 0), of(api.I32, num(7)))
	expectLoad(t, x, cellOf(links, 0), own)
	if again := x.Globals(); again[links][0] != cellOf(-1, 0) || len(again[text]) != 3 {
		t.Errorf("%v", again)
	}
}

// P17.6: without globals, a poison pointer has the number of a stack object.
func TestGlobalsOfNoGlobals(t *testing.T) {
	x := memory.New(api.Module{}, nil)
	p, ok := x.Alloca(api.Ptr, 1)
	if !ok || p != cellOf(0, 0) || len(x.Globals()) != 0 || x.Mark() != 1 {
		t.Errorf("%v, %v, %v, %d", p, ok, x.Globals(), x.Mark())
	}
	expectLoad(t, x, p, at(0, poison))
}

// P17.7
func TestNotMadeByNew(t *testing.T) {
	duplicate := *start(t)
	for _, x := range []*memory.Memory{nil, {}, new(memory.Memory), &duplicate} {
		expectLoadStatus(t, x, cellOf(words, 0), api.I32, 1)
		expectLoadStatus(t, x, at(0, poison), api.I32, 1)
		if x.Store(cellOf(words, 0), of(api.I32)) != 1 || x.Store(at(0, poison), of(api.I32)) != 1 {
			t.Error("Store does not return 1")
		}
		if p, ok := x.Alloca(api.I32, 1); p != (api.Value{}) || ok {
			t.Errorf("Alloca: %v, %v", p, ok)
		}
		x.Release(0)
		if x.Mark() != 0 || x.Globals() != nil {
			t.Errorf("%d, %v", x.Mark(), x.Globals())
		}
	}
}

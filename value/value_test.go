package value_test

import (
	"math"
	"testing"

	"burnish/api"
	"burnish/value"
)

var (
	poison  = api.Lane{Poison: true}
	unknown = api.Lane{Unknown: true}
)

// The types that have values, and some numbers that are no such types.
var (
	types      = []api.Type{api.Bool, api.I8, api.I32, api.I64, api.Ptr, api.V2, api.V4}
	otherTypes = []api.Type{math.MinInt, -1, api.Void, 8, 99, math.MaxInt}
)

func num(n int64) api.Lane {
	return api.Lane{N: n}
}

// of returns the value of a type that is not Ptr with the given lanes.
func of(t api.Type, lanes ...api.Lane) api.Value {
	v := api.Value{Type: t}
	copy(v.Lanes[:], lanes)
	return v
}

// at returns the pointer to an object with the given offset.
func at(object int, offset api.Lane) api.Value {
	return api.Value{Type: api.Ptr, Object: object, Lanes: [4]api.Lane{offset}}
}

var noPointer = of(api.Ptr, poison)

// P11.1
func TestNumLanes(t *testing.T) {
	want := map[api.Type]int{api.Bool: 1, api.I8: 1, api.I32: 1, api.I64: 1, api.Ptr: 1, api.V2: 2, api.V4: 4}
	for _, ty := range append(types, otherTypes...) {
		if got := value.NumLanes(ty); got != want[ty] {
			t.Errorf("NumLanes(%d) = %d", ty, got)
		}
	}
}

// P11.1
func TestInt(t *testing.T) {
	for _, x := range []struct {
		t    api.Type
		n    int64
		want api.Value
	}{
		{api.Bool, 1, of(api.Bool, num(1))},
		{api.Bool, -1, of(api.Bool, num(1))},
		{api.Bool, 2, of(api.Bool)},
		{api.I8, -128, of(api.I8, num(-128))},
		{api.I8, 128, of(api.I8, num(-128))},
		{api.I8, 1000, of(api.I8, num(-24))},
		{api.I32, math.MaxInt32, of(api.I32, num(math.MaxInt32))},
		{api.I32, math.MaxInt64, of(api.I32, num(-1))},
		{api.I64, math.MaxInt64, of(api.I64, num(math.MaxInt64))},
		{api.I64, math.MinInt64, of(api.I64, num(math.MinInt64))},
		{api.V2, -7, of(api.V2, num(-7), num(-7))},
		{api.V2, 1 << 31, of(api.V2, num(math.MinInt32), num(math.MinInt32))},
		{api.V4, 3, of(api.V4, num(3), num(3), num(3), num(3))},
		{api.V4, 1<<32 + 5, of(api.V4, num(5), num(5), num(5), num(5))},
		{api.Ptr, 3, api.Value{}},
		{api.Ptr, 0, api.Value{}},
	} {
		if got := value.Int(x.t, x.n); got != x.want {
			t.Errorf("Int(%d, %d) = %v", x.t, x.n, got)
		}
	}
	for _, other := range otherTypes {
		if got := value.Int(other, 1); got != (api.Value{}) {
			t.Errorf("Int(%d, 1) = %v", other, got)
		}
	}
}

// P11.1
func TestPoison(t *testing.T) {
	for _, ty := range types {
		want := of(ty, []api.Lane{poison, poison, poison, poison}[:value.NumLanes(ty)]...)
		if got := value.Poison(ty); got != want {
			t.Errorf("Poison(%d) = %v", ty, got)
		}
	}
	for _, other := range otherTypes {
		if got := value.Poison(other); got != (api.Value{}) {
			t.Errorf("Poison(%d) = %v", other, got)
		}
	}
}

// P11.1
func TestPointer(t *testing.T) {
	for _, object := range []int{-1, 0, 1, 31, 400, math.MaxInt} {
		for _, offset := range []int64{0, 5, -5, math.MinInt64, math.MaxInt64} {
			if got := value.Pointer(object, offset); got != at(object, num(offset)) || !value.Valid(got) {
				t.Errorf("Pointer(%d, %d) = %v", object, offset, got)
			}
		}
	}
	for _, object := range []int{-2, -3, math.MinInt} {
		if got := value.Pointer(object, 1); got != (api.Value{}) {
			t.Errorf("Pointer(%d, 1) = %v", object, got)
		}
	}
}

// P11.2
func TestValid(t *testing.T) {
	for _, v := range []api.Value{
		of(api.Bool, num(0)), of(api.Bool, num(1)), of(api.Bool, poison), of(api.Bool, unknown),
		of(api.I8, num(-128)), of(api.I8, num(127)), of(api.I8, poison), of(api.I8, unknown),
		of(api.I32, num(math.MinInt32)), of(api.I32, num(math.MaxInt32)), of(api.I32, unknown),
		of(api.I64, num(math.MinInt64)), of(api.I64, num(math.MaxInt64)), of(api.I64, poison),
		of(api.V2, num(math.MinInt32), num(math.MaxInt32)), of(api.V2, poison, unknown), of(api.V2, unknown, num(1)),
		of(api.V4, num(math.MinInt32), poison, unknown, num(math.MaxInt32)), of(api.V4),
		noPointer, at(0, num(0)), at(-1, num(math.MinInt64)), at(math.MaxInt, num(math.MaxInt64)), at(-1, unknown), at(0, unknown), at(3, unknown),
	} {
		if !value.Valid(v) {
			t.Errorf("%v is not valid", v)
		}
	}
}

// The values that break one rule each; P11.2 and P11.5 say what is answered for them.
func invalidValues() []api.Value {
	both := api.Lane{Poison: true, Unknown: true}
	poisonOne, unknownOne := api.Lane{N: 1, Poison: true}, api.Lane{N: -1, Unknown: true}
	all := []api.Value{
		{},
		of(api.Bool, num(2)), of(api.Bool, num(-1)), of(api.I8, num(128)), of(api.I8, num(-129)),
		of(api.I32, num(math.MaxInt32+1)), of(api.I32, num(math.MinInt32-1)),
		of(api.V2, num(math.MaxInt32+1)), of(api.V2, num(0), num(math.MinInt32-1)), of(api.V4, num(0), num(0), num(0), num(1<<40)),
		at(-2, num(0)), at(math.MinInt, num(0)), at(-2, unknown), at(-1, poison), at(1, poison),
	}
	for _, ty := range types {
		for _, lane := range []api.Lane{both, poisonOne, unknownOne} {
			all = append(all, of(ty, lane))
		}
		for i := value.NumLanes(ty); i < 4; i++ { // a lane that the type does not have
			for _, lane := range []api.Lane{num(1), poison, unknown} {
				v := of(ty)
				v.Lanes[i] = lane
				all = append(all, v)
			}
		}
		if ty != api.Ptr {
			for _, object := range []int{-1, 1} {
				v := of(ty)
				v.Object = object
				all = append(all, v)
			}
		}
	}
	for _, lane := range []api.Lane{both, poisonOne, unknownOne} {
		all = append(all, of(api.V2, num(0), lane), of(api.V4, num(0), num(0), num(0), lane))
	}
	for _, other := range otherTypes {
		all = append(all, of(other), of(other, num(1)), of(other, poison), of(other, unknown))
	}
	return all
}

// P11.2, P11.5
func TestInvalidValues(t *testing.T) {
	for _, v := range invalidValues() {
		if value.Valid(v) || value.HasPoison(v) || value.Format(v) != "" {
			t.Errorf("%v: Valid %v, HasPoison %v, Format %q", v, value.Valid(v), value.HasPoison(v), value.Format(v))
		}
		partner := of(v.Type)
		if value.Refines(v, v) || value.Refines(v, partner) || value.Refines(partner, v) || value.Refines(v, value.Poison(v.Type)) {
			t.Errorf("%v is not valid, but Refines accepts it", v)
		}
	}
}

// P11.2
func TestHasPoison(t *testing.T) {
	for _, ty := range types {
		if !value.HasPoison(value.Poison(ty)) || value.HasPoison(of(ty)) || value.HasPoison(of(ty, unknown)) {
			t.Errorf("type %d", ty)
		}
		for i := range value.NumLanes(ty) {
			v := of(ty)
			v.Lanes[i] = poison
			if !value.HasPoison(v) {
				t.Errorf("%v has no poison", v)
			}
		}
	}
}

// P11.2: DOC.md, Refinement of values
func TestRefinesByLane(t *testing.T) {
	lanes := []api.Lane{num(0), num(1), unknown, poison}
	refines := [][]bool{ // [a][b]
		{true, false, true, true},
		{false, true, true, true},
		{false, false, true, true},
		{false, false, false, true},
	}
	for i, a := range lanes {
		for j, b := range lanes {
			for _, ty := range types {
				for lane := range value.NumLanes(ty) {
					v, w := of(ty), of(ty)
					v.Lanes[lane], w.Lanes[lane] = a, b
					if got := value.Refines(v, w); got != refines[i][j] {
						t.Errorf("Refines(%v, %v) = %v", v, w, got)
					}
				}
			}
		}
	}
	if value.Refines(of(api.V2, num(1), num(2)), of(api.V2, poison, num(3))) || !value.Refines(of(api.V2, poison, num(3)), of(api.V2, poison, unknown)) {
		t.Error("one lane does not make up for another")
	}
}

// P11.2: DOC.md, Refinement of values
func TestRefinesByTypeAndObject(t *testing.T) {
	for _, a := range types {
		for _, b := range types {
			if got := value.Refines(of(a), value.Poison(b)); got != (a == b) {
				t.Errorf("type %d refines poison of type %d: %v", a, b, got)
			}
		}
	}
	for _, x := range []struct {
		a, b api.Value
		want bool
	}{
		{at(1, num(5)), at(1, num(5)), true},
		{at(1, num(5)), at(2, num(5)), false},
		{at(0, num(5)), at(-1, num(5)), false},
		{at(1, num(5)), at(1, unknown), true},
		{at(1, num(5)), at(2, unknown), false},
		{at(1, unknown), at(2, unknown), false},
		{at(1, unknown), at(1, num(5)), false},
		{at(1, num(5)), noPointer, true},
		{at(-1, unknown), noPointer, true},
		{noPointer, at(0, unknown), false},
		{noPointer, at(0, num(0)), false},
		{noPointer, noPointer, true},
	} {
		if got := value.Refines(x.a, x.b); got != x.want {
			t.Errorf("Refines(%v, %v) = %v", x.a, x.b, got)
		}
	}
}

// P11.5, example 2
func TestFormat(t *testing.T) {
	for _, x := range []struct {
		v    api.Value
		want string
	}{
		{value.Pointer(1, 5), "ptr 1 5"},
		{of(api.V2, num(3), poison), "v2 3 poison"},
		{noPointer, "ptr poison"},
		{at(-1, num(-3)), "ptr -1 -3"},
		{at(0, unknown), "ptr 0 unknown"},
		{of(api.Bool, num(1)), "bool 1"},
		{of(api.Bool, unknown), "bool unknown"},
		{of(api.I8, num(-128)), "i8 -128"},
		{of(api.I32, poison), "i32 poison"},
		{of(api.I32, num(0)), "i32 0"},
		{of(api.I64, num(math.MinInt64)), "i64 -9223372036854775808"},
		{of(api.V4, num(-1), unknown, poison, num(2147483647)), "v4 -1 unknown poison 2147483647"},
		{of(api.V2), "v2 0 0"},
	} {
		if got := value.Format(x.v); got != x.want {
			t.Errorf("Format %q, want %q", got, x.want)
		}
	}
}

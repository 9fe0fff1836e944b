package witness_test

import (
	"math"
	"math/rand"
	"reflect"
	"testing"
	"unsafe"

	"burnish/api"
	"burnish/expr"
	"burnish/witness"
)

// leaves returns all numbers, flags and lists in v. What it returns can be set.
func leaves(v reflect.Value) []reflect.Value {
	var all []reflect.Value
	switch v.Kind() {
	case reflect.Struct:
		for i := range v.NumField() {
			all = append(all, leaves(v.Field(i))...)
		}
		return all
	case reflect.Slice:
		for i := range v.Len() {
			all = append(all, leaves(v.Index(i))...)
		}
	}
	return append(all, v)
}

// parts returns the leaves of a witness.
func parts(w *api.Witness) []reflect.Value {
	return leaves(reflect.ValueOf(w).Elem())
}

// damage puts something else in the place of a leaf of w.
func damage(r *rand.Rand, w *api.Witness) {
	all := parts(w)
	part := all[r.Intn(len(all))]
	switch part.Kind() {
	case reflect.Bool:
		part.SetBool(!part.Bool())
	case reflect.Slice:
		if part.Len() == 0 || r.Intn(4) == 0 {
			part.Set(reflect.Append(part, reflect.Zero(part.Type().Elem())))
		} else if i := r.Intn(part.Len()); r.Intn(2) == 0 {
			part.Set(reflect.AppendSlice(part.Slice3(0, i, i), part.Slice(i+1, part.Len())))
		} else {
			part.Set(reflect.Append(part, part.Index(i)))
		}
	default:
		numbers := []int64{part.Int() + 1, part.Int() - 1, 0, 1, -1, int64(r.Intn(12)), math.MaxInt64, math.MinInt64}
		part.SetInt(numbers[r.Intn(len(numbers))])
	}
}

// others returns values that a leaf might have instead.
func others(v reflect.Value) []reflect.Value {
	switch v.Kind() {
	case reflect.Bool:
		return []reflect.Value{reflect.ValueOf(!v.Bool())}
	case reflect.Slice:
		more := reflect.Append(v, reflect.Zero(v.Type().Elem()))
		if v.Len() == 0 {
			return []reflect.Value{more}
		}
		return []reflect.Value{more, v.Slice(0, v.Len()-1), v.Slice(1, v.Len()), reflect.Zero(v.Type())}
	}
	return []reflect.Value{reflect.ValueOf(v.Int() + 1).Convert(v.Type()), reflect.ValueOf(^v.Int()).Convert(v.Type())}
}

// P24.2: Equal leaves out no field.
func TestEqualComparesAllFields(t *testing.T) {
	a, b := sample(), sample()
	if !witness.Equal(a, b) || !witness.Equal(b, b) || !witness.Equal(api.Witness{}, api.Witness{}) {
		t.Error("the same witness is not equal")
	}
	fields := parts(&b)
	for i, field := range fields {
		old := reflect.New(field.Type()).Elem()
		old.Set(field)
		for _, other := range others(field) {
			if field.Set(other); witness.Equal(a, b) || witness.Equal(b, a) {
				t.Errorf("field %d: %v and %v are equal", i, old, other)
			}
		}
		if field.Set(old); !witness.Equal(a, b) || !witness.Equal(b, a) {
			t.Fatalf("field %d: %v differs from itself", i, old)
		}
	}
	if len(fields) < 100 {
		t.Errorf("%d fields", len(fields))
	}
}

// P24.2: nil and empty lists are equal, everywhere.
func TestEmptyListsAreEqual(t *testing.T) {
	empty := api.Witness{Expand: []api.Pos{}, CutPoints: []api.CutPoint{}, Paths: []api.Path{}}
	if !witness.Equal(api.Witness{}, empty) || !witness.Equal(empty, api.Witness{}) {
		t.Error("the witness without anything")
	}
	a := sample()
	a.CutPoints = append(a.CutPoints, api.CutPoint{Invariants: []api.Invariant{{}, {Reg: 3}}})
	a.Paths = append(a.Paths, api.Path{}, api.Path{Target: []int{0}})
	b := sample()
	b.CutPoints = append(b.CutPoints, api.CutPoint{Invariants: []api.Invariant{{Expr: []api.ExprNode{}}, {Reg: 3, Expr: []api.ExprNode{}}}})
	b.CutPoints[0].Invariants, b.CutPoints[2].Invariants = []api.Invariant{}, []api.Invariant{}
	b.Paths = append(b.Paths, api.Path{Target: []int{}, Source: []int{}}, api.Path{Target: []int{0}, Source: []int{}})
	if !witness.Equal(a, b) || !witness.Equal(b, a) {
		t.Errorf("%+v and %+v differ", a, b)
	}
}

// address returns where the elements of a list are, or nil if there is no room for any.
func address(list reflect.Value) unsafe.Pointer {
	if list.Kind() != reflect.Slice || list.Cap() == 0 {
		return nil
	}
	return list.UnsafePointer()
}

// expectNewMemory checks that no list of a result is in memory of another one or of the given ones.
func expectNewMemory(t *testing.T, name string, result any, least int, given ...any) {
	t.Helper()
	taken := map[unsafe.Pointer]bool{}
	for _, arg := range given {
		for _, list := range leaves(reflect.ValueOf(arg)) {
			taken[address(list)] = true
		}
	}
	delete(taken, nil)
	found := 0
	for _, list := range leaves(reflect.ValueOf(result)) {
		if at := address(list); at != nil {
			found++
			if taken[at] {
				t.Errorf("%s: %v is in memory of an argument or of another list", name, list)
			}
			taken[at] = true
		}
	}
	if found < least {
		t.Errorf("%s: %d lists", name, found)
	}
}

// DOC.md, Rule 4; LANGUAGE.md, rule 7
func TestResultsAreNewMemory(t *testing.T) {
	src, dst := samples(t)
	f, g := src.Funcs[fn], dst.Funcs[fn]
	shared := expr.Reg(3)
	extra := []api.Invariant{holds(6, shared), ofSource(0, shared), ofSource(3, shared), exactly(5, nil), holds(3, shared)}
	blocks, regs := []int{0, 2, 3, 2}, []int{5, 4, 1, 7, 0}
	expectNewMemory(t, "CutPoints", witness.CutPoints(f, g, blocks, blocks, regs, extra), 15, f, g, blocks, regs, extra)
	expectNewMemory(t, "Identity", witness.Identity(f, f, extra), 25, f, extra)
	b, _ := witness.Encode(sample())
	w, _ := witness.Decode(b)
	expectNewMemory(t, "Decode", w, 20, b)
	clear(b)
	if !witness.Equal(w, sample()) {
		t.Error("Decode keeps its argument")
	}
}

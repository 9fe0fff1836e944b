package verify_test

import (
	"math"
	"reflect"
	"testing"
	"unsafe"

	"burnish/api"
	"burnish/verify"
)

// leaves returns all numbers, names, flags and lists in v. What it returns can be set.
func leaves(v reflect.Value) []reflect.Value {
	var all []reflect.Value
	switch v.Kind() {
	case reflect.Struct:
		for i := range v.NumField() {
			all = append(all, leaves(v.Field(i))...)
		}
		return all
	case reflect.Slice:
		for i := range v.Len() {
			all = append(all, leaves(v.Index(i))...)
		}
	}
	return append(all, v)
}

// differentValues returns values that a leaf might have instead.
func differentValues(v reflect.Value) []reflect.Value {
	switch v.Kind() {
	case reflect.Bool:
		return []reflect.Value{reflect.ValueOf(!v.Bool())}
	case reflect.String:
		return []reflect.Value{reflect.ValueOf(v.String() + "x"), reflect.ValueOf("")}
	case reflect.Slice:
		more := reflect.Append(v, reflect.Zero(v.Type().Elem()))
		if v.Len() == 0 {
			return []reflect.Value{more}
		}
		return []reflect.Value{more, v.Slice(0, v.Len()-1), v.Slice(1, v.Len()), reflect.Zero(v.Type())}
	}
	return []reflect.Value{reflect.ValueOf(v.Int() + 1).Convert(v.Type()), reflect.ValueOf(^v.Int()).Convert(v.Type())}
}

// P14.3: no field is left out
func TestEqualComparesAllFields(t *testing.T) {
	a, b := sample(), sample()
	if !verify.Equal(a, b) || !verify.Equal(b, b) {
		t.Error("the same module is not equal")
	}
	fields := leaves(reflect.ValueOf(&b).Elem())
	for i, field := range fields {
		old := reflect.New(field.Type()).Elem()
		old.Set(field)
		for _, other := range differentValues(field) {
			if field.Set(other); verify.Equal(a, b) || verify.Equal(b, a) {
				t.Errorf("field %d: %v and %v are equal", i, old, other)
			}
		}
		if field.Set(old); !verify.Equal(a, b) || !verify.Equal(b, a) {
			t.Fatalf("field %d: %v differs from itself", i, old)
		}
	}
	if len(fields) < 250 {
		t.Errorf("%d fields", len(fields))
	}
}

// P14.3
func TestEqualFuncComparesAllFields(t *testing.T) {
	a, b := sample().Funcs[work], sample().Funcs[work]
	for i, field := range leaves(reflect.ValueOf(&b).Elem()) {
		old := reflect.New(field.Type()).Elem()
		old.Set(field)
		for _, other := range differentValues(field) {
			if field.Set(other); verify.EqualFunc(a, b) || verify.EqualFunc(b, a) {
				t.Errorf("field %d: %v and %v are equal", i, old, other)
			}
		}
		if field.Set(old); !verify.EqualFunc(a, b) {
			t.Fatalf("field %d: %v differs from itself", i, old)
		}
	}
}

// P14.3: nil and empty lists are equal, everywhere
func TestEmptyListsAreEqual(t *testing.T) {
	a, b := sample(), sample()
	emptied := 0
	for _, field := range leaves(reflect.ValueOf(&b).Elem()) {
		if field.Kind() == reflect.Slice && field.Len() == 0 {
			field.Set(reflect.MakeSlice(field.Type(), 0, 3))
			emptied++
		}
	}
	if !verify.Equal(a, b) || !verify.Equal(b, a) || emptied < 30 {
		t.Errorf("%d lists that are empty count as others", emptied)
	}
	for fn := range a.Funcs {
		if !verify.EqualFunc(a.Funcs[fn], b.Funcs[fn]) || !verify.EqualFunc(b.Funcs[fn], a.Funcs[fn]) {
			t.Errorf("function %d: lists that are empty count as others", fn)
		}
	}
	if !verify.Equal(api.Module{}, api.Module{Globals: []api.Global{}, Funcs: []api.Func{}}) || !verify.EqualFunc(api.Func{}, api.Func{Blocks: []api.Block{}}) {
		t.Error("no functions or no blocks")
	}
}

// P14.3: modules that are not valid are compared and copied as they are.
func TestEqualOfInvalidModules(t *testing.T) {
	block := api.Block{Params: []int{-1, -1}, Instrs: []api.Instr{{Op: -1, Type: 99, Args: []int{math.MinInt}}}, Term: api.Terminator{Kind: 9, Cases: []int64{1, 1}}}
	m := api.Module{Globals: make([]api.Global, 40), Funcs: []api.Func{{Name: ";", Params: []int{5}, Blocks: []api.Block{block, block}}}}
	clone := verify.Clone(m)
	if !verify.Equal(m, clone) || !reflect.DeepEqual(m, clone) {
		t.Errorf("Clone: %+v", clone)
	}
	clone.Funcs[0].Blocks[0].Params[0] = 3
	if verify.Equal(m, clone) || m.Funcs[0].Blocks[0].Params[0] != -1 || clone.Funcs[0].Blocks[1].Params[0] != -1 {
		t.Error("lists that were one are one in the clone too")
	}
}

// addresses returns where the lists and the names in v are stored.
func addresses(v reflect.Value) map[unsafe.Pointer]bool {
	all := map[unsafe.Pointer]bool{}
	for _, leaf := range leaves(v) {
		switch {
		case leaf.Kind() == reflect.Slice && leaf.Cap() > 0:
			all[leaf.UnsafePointer()] = true
		case leaf.Kind() == reflect.String && leaf.Len() > 0:
			all[unsafe.Pointer(unsafe.StringData(leaf.String()))] = true
		}
	}
	return all
}

func expectNothingShared(t *testing.T, a, b reflect.Value) {
	t.Helper()
	inA := addresses(a)
	for address := range addresses(b) {
		if inA[address] {
			t.Errorf("both have the memory at %p", address)
		}
	}
	if len(inA) < 20 {
		t.Errorf("%d lists and names", len(inA))
	}
}

// P14.3
func TestClonesShareNoMemory(t *testing.T) {
	m := sample()
	a, b := verify.Clone(m), verify.Clone(m)
	if !reflect.DeepEqual(a, sample()) || !reflect.DeepEqual(m, sample()) || !verify.Equal(a, m) {
		t.Errorf("Clone: %+v", a)
	}
	expectNothingShared(t, reflect.ValueOf(&m).Elem(), reflect.ValueOf(&a).Elem())
	expectNothingShared(t, reflect.ValueOf(&a).Elem(), reflect.ValueOf(&b).Elem())
	for _, leaf := range leaves(reflect.ValueOf(&a).Elem()) {
		if leaf.CanInt() {
			leaf.SetInt(77)
		}
	}
	if !reflect.DeepEqual(m, sample()) || !reflect.DeepEqual(b, sample()) {
		t.Error("a change to a clone is a change to the module")
	}
	if clone := verify.Clone(api.Module{}); !reflect.DeepEqual(clone, api.Module{}) {
		t.Errorf("Clone of nothing: %+v", clone)
	}
}

// P14.3
func TestClonesOfFunctionsShareNoMemory(t *testing.T) {
	f := sample().Funcs[work]
	clone := verify.CloneFunc(f)
	if !reflect.DeepEqual(clone, f) || !verify.EqualFunc(clone, f) {
		t.Errorf("CloneFunc: %+v", clone)
	}
	expectNothingShared(t, reflect.ValueOf(&f).Elem(), reflect.ValueOf(&clone).Elem())
	for _, leaf := range leaves(reflect.ValueOf(&clone).Elem()) {
		if leaf.CanInt() {
			leaf.SetInt(77)
		}
	}
	if !reflect.DeepEqual(f, sample().Funcs[work]) {
		t.Error("a change to a clone is a change to the function")
	}
	if clone := verify.CloneFunc(api.Func{}); !reflect.DeepEqual(clone, api.Func{}) {
		t.Errorf("CloneFunc of nothing: %+v", clone)
	}
}

// P14.4
func TestSize(t *testing.T) {
	want := []int{done: 1, same: 1, work: 13, mixed: 1, last: 2}
	for fn, f := range sample().Funcs {
		if got := verify.Size(f); got != want[fn] {
			t.Errorf("Size of function %d: %d, want %d", fn, got, want[fn])
		}
	}
	if got := verify.Size(api.Func{}); got != 0 {
		t.Errorf("Size of nothing: %d", got)
	}
	if got := verify.Size(api.Func{Blocks: make([]api.Block, 500)}); got != 500 {
		t.Errorf("Size of 500 blocks without instructions: %d", got)
	}
}

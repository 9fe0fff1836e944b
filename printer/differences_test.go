package printer_test

import (
	"math"
	"reflect"
	"testing"

	"burnish/api"
	"burnish/printer"
	"burnish/verify"
)

// leaves returns all numbers, names, flags and lists in v. What it returns can be set.
func leaves(v reflect.Value) []reflect.Value {
	var all []reflect.Value
	switch v.Kind() {
	case reflect.Struct:
		for i := range v.NumField() {
			all = append(all, leaves(v.Field(i))...)
		}
		return all
	case reflect.Slice:
		for i := range v.Len() {
			all = append(all, leaves(v.Index(i))...)
		}
	}
	return append(all, v)
}

// otherValues returns values that a leaf might have instead.
func otherValues(v reflect.Value) []reflect.Value {
	var all []reflect.Value
	switch v.Kind() {
	case reflect.Bool:
		return []reflect.Value{reflect.ValueOf(!v.Bool())}
	case reflect.String:
		return []reflect.Value{reflect.ValueOf(v.String() + "x"), reflect.ValueOf("i32"), reflect.ValueOf("X")}
	case reflect.Slice:
		for i := range v.Len() {
			all = append(all, v.Slice(0, i), v.Slice(i+1, v.Len()))
		}
		return append(all, reflect.Append(v, reflect.Zero(v.Type().Elem())))
	}
	for n := range int64(34) {
		all = append(all, reflect.ValueOf(n-1).Convert(v.Type()))
	}
	for _, n := range []int64{math.MinInt64, math.MaxInt64, v.Int() + 1, -v.Int()} {
		all = append(all, reflect.ValueOf(n).Convert(v.Type()))
	}
	return all
}

// P15.3: modules that differ in a field or two have different texts, if they are valid.
func TestDifferentModules(t *testing.T) {
	a, b := sample(), sample()
	text, _ := printer.Module(a)
	modules := map[string]api.Module{text: a}
	for _, field := range leaves(reflect.ValueOf(&b).Elem()) {
		old := reflect.New(field.Type()).Elem()
		old.Set(field)
		for _, other := range otherValues(field) {
			field.Set(other)
			if verify.Module(b) != (api.Diagnostic{}) {
				continue
			}
			text, d := printer.Module(b)
			if m, ok := modules[text]; d != (api.Diagnostic{}) || ok && !verify.Equal(m, b) {
				t.Errorf("a text that another module has, %+v:\n%s", d, text)
			}
			modules[text] = verify.Clone(b)
			expectParts(t, b, text)
		}
		field.Set(old)
	}
	if len(modules) < 500 {
		t.Errorf("%d texts", len(modules))
	}
}

// expectParts checks that a text is the concatenation of those of its globals and its functions.
func expectParts(t *testing.T, m api.Module, text string) {
	t.Helper()
	parts, _ := printer.Module(api.Module{Globals: m.Globals})
	for fn := range m.Funcs {
		part, d := printer.Func(m, fn)
		if d != (api.Diagnostic{}) {
			t.Errorf("function %d: %+v", fn, d)
		}
		parts += part
	}
	if parts != text {
		t.Errorf("the text is not that of its parts:\n%s", text)
	}
}

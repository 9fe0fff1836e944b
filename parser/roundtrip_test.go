package parser_test

import (
	"math"
	"math/rand"
	"reflect"
	"testing"

	"burnish/api"
	"burnish/parser"
	"burnish/printer"
	"burnish/verify"
)

// leaves returns all numbers, names, flags and lists in v. What it returns can be set.
func leaves(v reflect.Value) []reflect.Value {
	var all []reflect.Value
	switch v.Kind() {
	case reflect.Struct:
		for i := range v.NumField() {
			all = append(all, leaves(v.Field(i))...)
		}
		return all
	case reflect.Slice:
		for i := range v.Len() {
			all = append(all, leaves(v.Index(i))...)
		}
	}
	return append(all, v)
}

// change sets a leaf to something else.
func change(r *rand.Rand, leaf reflect.Value) {
	numbers := []int64{-1, 0, 1, 2, 3, 4, 5, 6, 7, 16, 99, math.MinInt64, math.MaxInt64}
	switch leaf.Kind() {
	case reflect.Bool:
		leaf.SetBool(!leaf.Bool())
	case reflect.String:
		leaf.SetString([]string{"x", "block", "i32", "trap", "_"}[r.Intn(5)])
	case reflect.Slice:
		leaf.Set(leaf.Slice(0, r.Intn(leaf.Len()+1)))
	default:
		leaf.SetInt(numbers[r.Intn(len(numbers))])
	}
}

// P16.3: every valid module is what its text is read as.
func TestRoundTrip(t *testing.T) {
	r := rand.New(rand.NewSource(1))
	texts := map[string]bool{}
	for range 20000 {
		m := sample()
		fields := leaves(reflect.ValueOf(&m).Elem())
		for range 1 + r.Intn(3) {
			change(r, fields[r.Intn(len(fields))])
		}
		if verify.Module(m) != (api.Diagnostic{}) {
			continue
		}
		text, d := printer.Module(m)
		got, offset, err := parser.Module(text)
		if d.Code != api.OK || offset != 0 || err != api.OK || !verify.Equal(got, m) {
			t.Fatalf("%+v, %d, %v:\n%s", d, offset, err, text)
		}
		texts[text] = true
	}
	if len(texts) < 200 {
		t.Errorf("%d texts", len(texts))
	}
}

// P16.3: the names of operations, types, terminators and of the format's own words are names like others.
func TestWordsAsNames(t *testing.T) {
	for _, name := range []string{"global", "func", "regs", "block", "readonly", "nowrap", "jump", "trap", "tailcall", "add", "call", "void", "i32", "A", "_", "r0"} {
		m := sample()
		m.Globals[0].Name, m.Funcs[1].Name = name, name
		m.Globals[1].Name, m.Funcs[0].Name = "g", "f"
		m.Globals[3].Name = "h"
		text, d := printer.Module(m)
		got, offset, err := parser.Module(text)
		if d.Code != api.OK || offset != 0 || err != api.OK || !verify.Equal(got, m) {
			t.Errorf("%s: %+v, %d, %v", name, d, offset, err)
		}
	}
}

// DOC.md, Rules 4 and 5: what is read is the caller's, and the same each time.
func TestModulesOfTheirOwn(t *testing.T) {
	a, _, _ := parser.Module(sampleText)
	for _, leaf := range leaves(reflect.ValueOf(&a).Elem()) {
		if leaf.Kind() == reflect.Int || leaf.Kind() == reflect.Int64 {
			leaf.SetInt(-7)
		}
	}
	b, offset, err := parser.Module(sampleText)
	if offset != 0 || err != api.OK || !verify.Equal(b, sample()) {
		t.Errorf("%d, %v, %+v", offset, err, b)
	}
	lists := map[uintptr]bool{}
	for _, leaf := range leaves(reflect.ValueOf(&b).Elem()) {
		if leaf.Kind() == reflect.Slice && leaf.Cap() > 0 {
			if lists[leaf.Pointer()] {
				t.Error("two lists share memory")
			}
			lists[leaf.Pointer()] = true
		}
	}
}

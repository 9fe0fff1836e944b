package interp_test

import (
	"reflect"
	"strings"
	"testing"

	"burnish/api"
	"burnish/interp"
	"burnish/parser"
	"burnish/value"
)

var (
	poison  = api.Lane{Poison: true}
	unknown = api.Lane{Unknown: true}
)

func num(n int64) api.Lane {
	return api.Lane{N: n}
}

// of returns the value of a type that is not Ptr with the given lanes.
func of(t api.Type, lanes ...api.Lane) api.Value {
	v := api.Value{Type: t}
	copy(v.Lanes[:], lanes)
	return v
}

// at returns the pointer to an object with the given offset.
func at(object int, offset api.Lane) api.Value {
	return api.Value{Type: api.Ptr, Object: object, Lanes: [4]api.Lane{offset}}
}

func i32(n int64) api.Value {
	return value.Int(api.I32, n)
}

func module(t *testing.T, text string) api.Module {
	t.Helper()
	m, offset, err := parser.Module(text)
	if err != api.OK {
		t.Fatalf("%v at %q", err, text[offset:])
	}
	return m
}

// plenty returns limits that no test means to reach.
func plenty() api.Limits {
	return api.Limits{Steps: 10000, Frames: 50, Objects: 50}
}

// run runs function 0 of the module with a text.
func run(t *testing.T, text string, lim api.Limits, args ...api.Value) api.Outcome {
	t.Helper()
	return interp.Run(module(t, text), 0, api.Input{Args: args}, lim)
}

// listed returns the formats of values, separated by semicolons. What cannot be the value of a run is listed as "?".
func listed(values []api.Value) string {
	var all []string
	for _, v := range values {
		text := value.Format(v)
		if text == "" {
			text = "?"
		}
		all = append(all, text)
	}
	return strings.Join(all, "; ")
}

// shown describes an outcome.
func shown(o api.Outcome) string {
	cells := ""
	for _, list := range o.Cells {
		cells += " [" + listed(list) + "]"
	}
	result := value.Format(o.Result)
	if o.Result != (api.Value{}) && result == "" {
		result = "?"
	}
	kind := []string{"none", "returned", "trapped", "undefined", "exhausted", "unresolved"}[o.Kind]
	return kind + " " + strings.Repeat("|", o.Steps) + " code " + strings.Repeat("|", o.Code) + " result <" + result + "> output <" + listed(o.Output) + "> cells" + cells
}

func expectOutcome(t *testing.T, why string, got, want api.Outcome) {
	t.Helper()
	if !sameOutcome(got, want) {
		t.Errorf("%s:\n%s, want\n%s", why, shown(got), shown(want))
	}
}

// sameOutcome reports whether two outcomes are equal, with no difference between nil and empty lists.
func sameOutcome(a, b api.Outcome) bool {
	if len(a.Output) == 0 && len(b.Output) == 0 {
		a.Output, b.Output = nil, nil
	}
	if len(a.Cells) == 0 && len(b.Cells) == 0 {
		a.Cells, b.Cells = nil, nil
	}
	return reflect.DeepEqual(a, b)
}

// expectOutput checks what function 0 of a module without globals that returns nothing puts out.
func expectOutput(t *testing.T, text string, lim api.Limits, want string, args ...api.Value) {
	t.Helper()
	o := run(t, text, lim, args...)
	if o.Kind != api.Returned || listed(o.Output) != want {
		t.Errorf("%s, want output %s\n%s", shown(o), want, text)
	}
}

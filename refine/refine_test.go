package refine_test

import (
	"math"
	"reflect"
	"slices"
	"testing"

	"burnish/api"
	"burnish/interp"
	"burnish/refine"
	"burnish/value"
)

// P19.1
func TestValuesOfOneElement(t *testing.T) {
	refined := 0
	for _, a := range someValues() {
		for _, b := range someValues() {
			want := value.Refines(a, b)
			if got := refine.Values([]api.Value{a}, []api.Value{b}); got != want {
				t.Errorf("%v and %v: %v", a, b, got)
			}
			if want && a != b {
				refined++
			}
		}
	}
	if refined < 20 {
		t.Errorf("%d values refine others", refined)
	}
}

// P19.1
func TestValues(t *testing.T) {
	bad := value.Poison(api.I32)
	for name, x := range map[string]struct {
		a, b []api.Value
		want bool
	}{
		"nothing":                 {nil, nil, true},
		"nil and empty":           {nil, []api.Value{}, true},
		"empty and nil":           {[]api.Value{}, nil, true},
		"one and none":            {[]api.Value{i32(1)}, nil, false},
		"none and one":            {nil, []api.Value{i32(1)}, false},
		"none and poison":         {nil, []api.Value{bad}, false},
		"equal":                   {[]api.Value{i32(1), i32(2), bad}, []api.Value{i32(1), i32(2), bad}, true},
		"longer":                  {[]api.Value{i32(1), i32(2)}, []api.Value{i32(1)}, false},
		"shorter":                 {[]api.Value{i32(1)}, []api.Value{i32(1), i32(2)}, false},
		"poison refined":          {[]api.Value{i32(1), i32(2), i32(3)}, []api.Value{bad, i32(2), bad}, true},
		"the first does not":      {[]api.Value{bad, i32(2)}, []api.Value{i32(1), bad}, false},
		"one between does not":    {[]api.Value{i32(1), bad, i32(1)}, []api.Value{bad, i32(1), bad}, false},
		"the last does not":       {[]api.Value{i32(1), bad}, []api.Value{bad, i32(2)}, false},
		"another order":           {[]api.Value{i32(1), i32(2)}, []api.Value{i32(2), i32(1)}, false},
		"another type":            {[]api.Value{i32(1), value.Int(api.I64, 2)}, []api.Value{i32(1), i32(2)}, false},
		"no value, twice":         {[]api.Value{{}}, []api.Value{{}}, false},
		"no value, behind others": {[]api.Value{i32(1), {Type: 99}}, []api.Value{i32(1), {Type: 99}}, false},
	} {
		if got := refine.Values(x.a, x.b); got != x.want {
			t.Errorf("%s: %v", name, got)
		}
	}
}

// The respects in which outcomes differ, in the order in which Difference looks for them.
const (
	kind   = 1
	code   = 2
	output = 3
	result = 4
	cells  = 5
)

// outcome returns an outcome of a kind in which every field is set, whether the kind has it or not.
func outcome(kind int) api.Outcome {
	return api.Outcome{
		Kind: kind, Code: 16, Steps: 9, Result: i32(7),
		Output: []api.Value{i32(1), value.Poison(api.I64)},
		Cells:  [][]api.Value{{i32(1), i32(2)}, {}, {value.Pointer(1, 2)}},
	}
}

// without returns the outcome, changed so that it does not refine the given one any more in the respects in the set.
func without(o api.Outcome, respects []int) api.Outcome {
	for _, r := range respects {
		switch r {
		case code:
			o.Code = 17
		case output:
			o.Output = []api.Value{i32(1), i32(2)}
		case result:
			o.Result = value.Poison(api.I32)
		case cells:
			o.Cells = [][]api.Value{{i32(1), i32(2)}, {}, {value.Pointer(0, 2)}}
		}
	}
	return o
}

// P19.2: of several differences that count for the kind the first is reported.
func TestFirstDifference(t *testing.T) {
	counting := map[int][]int{api.Returned: {output, result, cells}, api.Trapped: {code, output}}
	for mask := range 1 << 4 {
		var respects []int
		for i, r := range []int{code, output, result, cells} {
			if mask>>i&1 == 1 {
				respects = append(respects, r)
			}
		}
		for _, k := range []int{api.Returned, api.Trapped} {
			want := 0
			for _, r := range slices.Backward(counting[k]) {
				if slices.Contains(respects, r) {
					want = r
				}
			}
			a, b := without(outcome(k), respects), outcome(k)
			if got := refine.Difference(a, b); got != want {
				t.Errorf("kind %d, differences %v: %d, want %d", k, respects, got, want)
			}
			if got := refine.Difference(a, outcome(3-k)); got != kind {
				t.Errorf("another kind than %d, differences %v: %d", k, respects, got)
			}
			for _, permissive := range []int{api.Undefined, api.Exhausted, api.Unresolved} {
				if got := refine.Difference(a, outcome(permissive)); got != 0 {
					t.Errorf("kinds %d and %d, differences %v: %d", k, permissive, respects, got)
				}
			}
		}
	}
}

// P19.2, and example 1
func TestKinds(t *testing.T) {
	kinds := []int{math.MinInt, -1, 0, api.Returned, api.Trapped, api.Undefined, api.Exhausted, api.Unresolved, 6, math.MaxInt}
	for _, a := range kinds {
		for _, b := range kinds {
			want := 1
			if b >= api.Undefined && b <= api.Unresolved || a == b && (a == api.Returned || a == api.Trapped) {
				want = 0
			}
			if got := refine.Difference(outcome(a), outcome(b)); got != want {
				t.Errorf("kinds %d and %d: %d", a, b, got)
			}
		}
	}
	if refine.Difference(api.Outcome{}, api.Outcome{}) != 1 || refine.Outcome(api.Outcome{}, api.Outcome{}) {
		t.Error("an outcome of no kind refines itself")
	}
	if got := refine.Difference(api.Outcome{Kind: api.Exhausted}, api.Outcome{Kind: api.Returned}); got != 1 {
		t.Errorf("exhausted and returned: %d", got)
	}
}

// P19.2: the numbers of steps are not compared.
func TestStepsDoNotCount(t *testing.T) {
	for _, k := range []int{api.Returned, api.Trapped} {
		a, b := outcome(k), outcome(k)
		for _, a.Steps = range []int{math.MinInt, 0, 8, 10, math.MaxInt} {
			if refine.Difference(a, b) != 0 || refine.Difference(b, a) != 0 {
				t.Errorf("kind %d: %d steps", k, a.Steps)
			}
		}
	}
}

// P19.2
func TestCodes(t *testing.T) {
	a, b := outcome(api.Trapped), outcome(api.Trapped)
	for _, a.Code = range []int{math.MinInt, 0, 1, 15, 17, math.MaxInt} {
		if refine.Difference(a, b) != code || refine.Difference(b, a) != code {
			t.Errorf("code %d", a.Code)
		}
	}
	a.Code, b.Code = math.MaxInt, math.MaxInt
	if refine.Difference(a, b) != 0 {
		t.Error("equal codes, though not of a trap")
	}
}

// P19.2: outputs are compared as by Values, in this direction.
func TestOutputs(t *testing.T) {
	lists := [][]api.Value{nil, {}, {i32(1)}, {i32(1), i32(2)}, {of(api.I32, unknown)}, {value.Poison(api.I32)}, {value.Poison(api.I32), i32(2)}, {{}}}
	for _, k := range []int{api.Returned, api.Trapped} {
		a, b := outcome(k), outcome(k)
		for _, a.Output = range lists {
			for _, b.Output = range lists {
				want := output
				if refine.Values(a.Output, b.Output) {
					want = 0
				}
				if got := refine.Difference(a, b); got != want {
					t.Errorf("kind %d, outputs %v and %v: %d", k, a.Output, b.Output, got)
				}
			}
		}
	}
}

// P19.2: results of type Void are equal, whatever else they have.
func TestResults(t *testing.T) {
	values := append(someValues(), api.Value{Object: 5, Lanes: [4]api.Lane{poison, unknown}})
	a, b := outcome(api.Returned), outcome(api.Returned)
	for _, a.Result = range values {
		for _, b.Result = range values {
			want := result
			if a.Result.Type == api.Void && b.Result.Type == api.Void || value.Refines(a.Result, b.Result) {
				want = 0
			}
			if got := refine.Difference(a, b); got != want {
				t.Errorf("results %v and %v: %d", a.Result, b.Result, got)
			}
		}
	}
	a.Result, b.Result = api.Value{}, value.Poison(api.I32)
	if refine.Difference(a, b) != result || refine.Difference(b, a) != result {
		t.Error("no result and poison")
	}
}

// P19.2
func TestCells(t *testing.T) {
	bad := value.Poison(api.I32)
	for name, x := range map[string]struct {
		a, b [][]api.Value
		want int
	}{
		"no globals":               {nil, nil, 0},
		"nil and empty":            {nil, [][]api.Value{}, 0},
		"empty lists":              {[][]api.Value{nil, {}}, [][]api.Value{{}, nil}, 0},
		"a list more":              {[][]api.Value{{i32(1)}, {i32(2)}}, [][]api.Value{{i32(1)}}, cells},
		"a list less":              {[][]api.Value{{i32(1)}}, [][]api.Value{{i32(1)}, {i32(2)}}, cells},
		"an empty list more":       {[][]api.Value{{i32(1)}, nil}, [][]api.Value{{i32(1)}}, cells},
		"a cell more":              {[][]api.Value{{i32(1), bad}}, [][]api.Value{{i32(1)}}, cells},
		"a cell less":              {[][]api.Value{{i32(1)}}, [][]api.Value{{i32(1), bad}}, cells},
		"the same cells otherwise": {[][]api.Value{{i32(1), i32(2)}, {}}, [][]api.Value{{i32(1)}, {i32(2)}}, cells},
		"poison refined":           {[][]api.Value{{i32(1), i32(2)}, {i32(3)}}, [][]api.Value{{i32(1), bad}, {of(api.I32, unknown)}}, 0},
		"the first does not":       {[][]api.Value{{bad, i32(2)}, {i32(3)}}, [][]api.Value{{i32(1), bad}, {bad}}, cells},
		"the last does not":        {[][]api.Value{{i32(1)}, {}, {i32(3), bad}}, [][]api.Value{{bad}, {}, {bad, i32(2)}}, cells},
		"another pointer":          {[][]api.Value{{value.Pointer(-1, 1)}}, [][]api.Value{{value.Pointer(1, 1)}}, cells},
		"no value, twice":          {[][]api.Value{{{}}}, [][]api.Value{{{}}}, cells},
	} {
		a, b := outcome(api.Returned), outcome(api.Returned)
		a.Cells, b.Cells = x.a, x.b
		if got := refine.Difference(a, b); got != x.want {
			t.Errorf("%s: %d", name, got)
		}
	}
}

// P19.2: example 1, and for all pairs of runs Outcome by Difference
func TestOutcome(t *testing.T) {
	all := append(runOutcomes(t), api.Outcome{}, outcome(api.Returned), outcome(api.Trapped), api.Outcome{Kind: api.Undefined})
	seen := map[int]int{}
	for _, a := range all {
		for _, b := range all {
			d := refine.Difference(a, b)
			seen[d]++
			if refine.Outcome(a, b) != (d == 0) {
				t.Fatalf("%+v\n%+v\ndifference %d, Outcome %v", a, b, d, d != 0)
			}
		}
		if !refine.Outcome(a, api.Outcome{Kind: api.Undefined}) {
			t.Errorf("%+v does not refine undefined behavior", a)
		}
	}
	for d := range 6 {
		if seen[d] == 0 {
			t.Errorf("no runs have difference %d", d)
		}
	}
}

// P19.4
func TestOutcomesOfRunsRefineThemselves(t *testing.T) {
	kinds := map[int]bool{}
	for _, o := range runOutcomes(t) {
		kinds[o.Kind] = true
		if !refine.Outcome(o, o) {
			t.Errorf("%+v does not refine itself", o)
		}
	}
	if len(kinds) != 5 || kinds[0] {
		t.Errorf("the runs are of the kinds %v", kinds)
	}
}

// P19.4
func TestRefinementOfRunsIsTransitive(t *testing.T) {
	var all []api.Outcome
	for _, o := range runOutcomes(t) {
		if !slices.ContainsFunc(all, func(other api.Outcome) bool { return reflect.DeepEqual(o, other) }) {
			all = append(all, o)
		}
	}
	refines := make([][]bool, len(all))
	chains := 0
	for i, a := range all {
		for _, b := range all {
			refines[i] = append(refines[i], refine.Outcome(a, b))
		}
	}
	for a := range all {
		for b := range all {
			for c := range all {
				if refines[a][b] && refines[b][c] {
					if !refines[a][c] {
						t.Fatalf("not transitive:\n%+v\n%+v\n%+v", all[a], all[b], all[c])
					}
					if a != b && b != c && all[c].Kind == api.Returned {
						chains++
					}
				}
			}
		}
	}
	if chains < 10 {
		t.Errorf("%d chains of three in %d outcomes", chains, len(all))
	}
}

// Refinement as DOC.md means it: a run that chooses refines the run that leaves the choice open.
func TestChoicesRefineOpenRuns(t *testing.T) {
	m := runModule(t)
	for fn := range m.Funcs {
		for _, in := range runInputs() {
			limits := runLimits()
			open := interp.Run(m, fn, in, limits[len(limits)-1])
			for _, lim := range limits {
				if o := interp.Run(m, fn, in, lim); !refine.Outcome(o, open) {
					t.Errorf("function %d: %+v does not refine %+v", fn, o, open)
				}
			}
		}
	}
}

// DOC.md, Rule 4
func TestArgumentsStayAsTheyAre(t *testing.T) {
	for _, k := range []int{api.Returned, api.Trapped} {
		a, b := outcome(k), outcome(k)
		a.Output[0], b.Cells[0][0] = value.Poison(api.I32), value.Poison(api.I32)
		wantA, wantB := outcome(k), outcome(k)
		wantA.Output[0], wantB.Cells[0][0] = value.Poison(api.I32), value.Poison(api.I32)
		for range 2 {
			refine.Difference(a, b)
			refine.Outcome(b, a)
			refine.Values(a.Output, b.Output)
		}
		if !reflect.DeepEqual(a, wantA) || !reflect.DeepEqual(b, wantB) {
			t.Errorf("%+v\n%+v", a, b)
		}
	}
}

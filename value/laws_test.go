package value_test

import (
	"slices"
	"testing"

	"burnish/api"
	"burnish/value"
)

// pool returns valid values of a type, among them every kind of lane in every place.
func pool(t api.Type) []api.Value {
	var integers []int64
	switch t {
	case api.Bool:
		integers = []int64{0, 1}
	case api.I8:
		integers = []int64{0, 1, 7, 8, -1, -128}
	case api.I32, api.I64:
		integers = []int64{0, 1, 31, 32, 63, 64, -1, -1 << 31}
	case api.Ptr:
		all := []api.Value{noPointer}
		for object := -1; object < 2; object++ {
			all = append(all, at(object, unknown), at(object, num(0)), at(object, num(-1)))
		}
		return all
	default:
		integers = []int64{1, 1<<31 - 1}
	}
	lanes := []api.Lane{poison, unknown}
	for _, n := range integers {
		lanes = append(lanes, num(n))
	}
	all := []api.Value{of(t)}
	for i := range value.NumLanes(t) {
		var longer []api.Value
		for _, v := range all {
			for _, lane := range lanes {
				v.Lanes[i] = lane
				longer = append(longer, v)
			}
		}
		all = longer
	}
	return all
}

// P11.6
func TestRefinesIsReflexiveAndTransitive(t *testing.T) {
	for _, ty := range types {
		all := pool(ty)
		for _, a := range all {
			if !value.Refines(a, a) {
				t.Errorf("%v does not refine itself", a)
			}
			for _, b := range all {
				if !value.Refines(a, b) {
					continue
				}
				for _, c := range all {
					if value.Refines(b, c) && !value.Refines(a, c) {
						t.Errorf("%v refines %v, and that %v", a, b, c)
					}
				}
			}
		}
	}
}

// P11.8
func TestFormatsDiffer(t *testing.T) {
	seen := map[string]api.Value{}
	for _, ty := range types {
		for _, v := range pool(ty) {
			text := value.Format(v)
			if other, ok := seen[text]; ok || text == "" {
				t.Errorf("%q is the format of %v and %v", text, v, other)
			}
			seen[text] = v
		}
	}
}

// forChoices calls f with all lists that take their elements from the lists of choices in turn.
func forChoices(choices [][]api.Value, f func(args []api.Value)) {
	args := make([]api.Value, len(choices))
	var fill func(i int)
	fill = func(i int) {
		if i == len(choices) {
			f(args)
			return
		}
		for _, args[i] = range choices[i] {
			fill(i + 1)
		}
	}
	fill(0)
}

// forOperands calls f with all lists of operands of the given types.
func forOperands(types []api.Type, f func(args []api.Value)) {
	var choices [][]api.Value
	for _, ty := range types {
		choices = append(choices, pool(ty))
	}
	forChoices(choices, f)
}

// forRefinements calls f with all lists of operands that refine b.
func forRefinements(b []api.Value, f func(a []api.Value)) {
	var choices [][]api.Value
	for _, v := range b {
		choices = append(choices, slices.DeleteFunc(pool(v.Type), func(a api.Value) bool { return !value.Refines(a, v) }))
	}
	forChoices(choices, f)
}

// P11.7, and that results are valid and have the type that the instruction says
func TestMonotonicity(t *testing.T) {
	for _, s := range signatures() {
		if s.result == api.V4 && len(s.operands) > 1 && s.op != api.OpPack {
			continue // too many lists; V2 goes the same way
		}
		in := s.instr()
		free := s.op == api.OpFreeze || s.op == api.OpSelect && s.result == api.Ptr
		forOperands(s.operands, func(b []api.Value) {
			onB, trap, status := value.Eval(in, b)
			if trap != 0 || status != 0 {
				return
			}
			if !value.Valid(onB) || onB.Type != in.Type {
				t.Fatalf("%v of %v: %v", in, b, onB)
			}
			if free || s.op == api.OpPack && s.result == api.V4 {
				return
			}
			forRefinements(b, func(a []api.Value) {
				onA, trap, status := value.Eval(in, a)
				if trap != 0 || status != 0 || !value.Refines(onA, onB) {
					t.Fatalf("%v of %v: %v, of %v: %v, %d, %d", in, b, onB, a, onA, trap, status)
				}
			})
		})
	}
}

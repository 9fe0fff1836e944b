package refine_test

import (
	"math"
	"math/big"
	"math/rand"
	"testing"

	"burnish/api"
	"burnish/refine"
	"burnish/verify"
)

// sized returns a module, valid or not, whose functions have the given sizes.
func sized(sizes ...int) api.Module {
	var m api.Module
	for _, size := range sizes {
		var f api.Func
		for size > 0 {
			instrs := min(size-1, 1+size/3)
			f.Blocks = append(f.Blocks, api.Block{Instrs: make([]api.Instr, instrs)})
			size -= instrs + 1
		}
		m.Funcs = append(m.Funcs, f)
	}
	return m
}

// huge returns a module with a function whose size is greater than MaxSteps. Its blocks share their instructions.
func huge() api.Module {
	block := api.Block{Instrs: make([]api.Instr, 4095)}
	f := api.Func{}
	for range api.MaxSteps/4096 + 1 {
		f.Blocks = append(f.Blocks, block)
	}
	return api.Module{Funcs: []api.Func{{}, f, {}}}
}

// P19.3: example 2 and the limits
func TestStepBound(t *testing.T) {
	for name, x := range map[string]struct {
		steps int
		m     api.Module
		want  int
	}{
		"example 2":                 {0, sized(4), 5},
		"example 2, nine steps":     {9, sized(4), 50},
		"no functions":              {0, api.Module{}, 1},
		"no functions, five steps":  {5, api.Module{}, 6},
		"no blocks":                 {5, sized(0, 0), 6},
		"globals do not count":      {1, api.Module{Globals: make([]api.Global, 7)}, 2},
		"terminators only":          {1, sized(1), 4},
		"the greatest is first":     {2, sized(9, 4, 1), 30},
		"the greatest is between":   {2, sized(4, 9, 1), 30},
		"the greatest is last":      {2, sized(4, 1, 9), 30},
		"a negative number":         {-1, sized(4), 5},
		"the least number":          {math.MinInt, sized(4), 5},
		"the least, no functions":   {math.MinInt, api.Module{}, 1},
		"just below":                {api.MaxSteps/4 - 2, sized(3), api.MaxSteps - 4},
		"just so":                   {api.MaxSteps/4 - 1, sized(3), api.MaxSteps},
		"just above":                {api.MaxSteps / 4, sized(3), api.MaxSteps},
		"not divisible, below":      {api.MaxSteps/3 - 1, sized(2), api.MaxSteps - 1},
		"not divisible, above":      {api.MaxSteps / 3, sized(2), api.MaxSteps},
		"no functions, just below":  {api.MaxSteps - 2, api.Module{}, api.MaxSteps - 1},
		"no functions, just so":     {api.MaxSteps - 1, api.Module{}, api.MaxSteps},
		"no functions, above":       {api.MaxSteps, api.Module{}, api.MaxSteps},
		"the greatest number":       {math.MaxInt, sized(4), api.MaxSteps},
		"the greatest, none":        {math.MaxInt, api.Module{}, api.MaxSteps},
		"the product is no int":     {math.MaxInt/2 - 1, sized(1), api.MaxSteps},
		"the product is 0, wrapped": {1<<62 - 1, sized(3), api.MaxSteps},
		"the sum is no int":         {math.MaxInt, sized(1), api.MaxSteps},
		"a huge function":           {0, huge(), api.MaxSteps},
		"a huge function, more":     {math.MaxInt, huge(), api.MaxSteps},
	} {
		if got := refine.StepBound(x.steps, x.m); got != x.want {
			t.Errorf("%s: StepBound %d, want %d", name, got, x.want)
		}
	}
}

// reference computes StepBound without a bound for numbers.
func reference(steps int, m api.Module) int {
	s := 0
	for _, f := range m.Funcs {
		s = max(s, verify.Size(f))
	}
	product := big.NewInt(int64(max(steps, 0)))
	product.Add(product, big.NewInt(1))
	product.Mul(product, big.NewInt(int64(1+s)))
	if product.Cmp(big.NewInt(api.MaxSteps)) > 0 {
		return api.MaxSteps
	}
	return int(product.Int64())
}

// P19.3 and P19.4
func TestStepBoundOfRandomNumbers(t *testing.T) {
	r := rand.New(rand.NewSource(19))
	for range 300 {
		m := sized(r.Intn(40), r.Intn(1<<r.Intn(13)))
		for range 50 {
			steps := int(r.Uint64()) >> r.Intn(64)
			got := refine.StepBound(steps, m)
			if want := reference(steps, m); got != want {
				t.Fatalf("StepBound of %d steps: %d, want %d", steps, got, want)
			}
			if got < min(steps, api.MaxSteps) {
				t.Fatalf("StepBound of %d steps: %d", steps, got)
			}
			if more := steps + r.Intn(5000); more >= steps && refine.StepBound(more, m) < got {
				t.Fatalf("StepBound of %d steps is %d, of %d steps less", steps, got, more)
			}
		}
	}
}

// P19.4: near the numbers from which on the bound stays the same
func TestStepBoundIsMonotonic(t *testing.T) {
	for _, size := range []int{0, 1, 2, 3, 6, 9, 1000} {
		m := sized(size)
		for _, middle := range []int{0, api.MaxSteps / (1 + size), api.MaxSteps} {
			last := 0
			for steps := middle - 100; steps < middle+100; steps++ {
				got := refine.StepBound(steps, m)
				if got < last || got < min(steps, api.MaxSteps) || got != reference(steps, m) {
					t.Fatalf("size %d: StepBound of %d steps: %d, after %d", size, steps, got, last)
				}
				last = got
			}
		}
	}
}

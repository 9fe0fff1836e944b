package interp_test

import (
	"math/rand"
	"slices"
	"testing"

	"burnish/api"
	"burnish/interp"
	"burnish/opcode"
	"burnish/value"
	"burnish/verify"
)

// The registers of a random function: three of each type.
const registersPerType = 3

func registerTypes() []api.Type {
	return slices.Repeat([]api.Type{api.Bool, api.I8, api.I32, api.I64, api.Ptr, api.V2, api.V4}, registersPerType)
}

// register returns a random register of type t.
func register(r *rand.Rand, t api.Type) int {
	types := registerTypes()
	for {
		if i := r.Intn(len(types)); types[i] == t {
			return i
		}
	}
}

// registersLike returns random registers of the types that the given ones have in f.
func registersLike(r *rand.Rand, f api.Func, given []int) []int {
	var all []int
	for _, i := range given {
		all = append(all, register(r, f.Regs[i]))
	}
	return all
}

// randomModule returns a valid module of functions with random bodies.
func randomModule(r *rand.Rand) api.Module {
	m := api.Module{Globals: []api.Global{
		{Name: "a", Elem: api.I32, Len: 4, Init: []int64{1, 2, 3}},
		{Name: "b", Elem: api.Ptr, Len: 2},
		{Name: "c", Elem: api.I32, Len: 4, Init: []int64{4, 5}, ReadOnly: true},
	}}
	for _, name := range []string{"f", "g", "h"} {
		result := []api.Type{api.Void, api.I32, api.I32, api.Ptr}[r.Intn(4)]
		f := api.Func{Name: name, Result: result, Regs: registerTypes()}
		f.Params = r.Perm(len(f.Regs))[:r.Intn(4)]
		m.Funcs = append(m.Funcs, f)
	}
	for i := range m.Funcs {
		addBlocks(r, m, &m.Funcs[i])
	}
	return m
}

func addBlocks(r *rand.Rand, m api.Module, f *api.Func) {
	f.Blocks = make([]api.Block, 1+r.Intn(5))
	for i := 1; i < len(f.Blocks); i++ {
		f.Blocks[i].Params = r.Perm(len(f.Regs))[:r.Intn(4)]
	}
	for i := range f.Blocks {
		b := &f.Blocks[i]
		if i == 0 {
			b.Instrs = firstInstrs(r)
		}
		for range r.Intn(8) {
			b.Instrs = append(b.Instrs, randomInstr(r, m, *f))
		}
		b.Term = randomTerminator(r, m, *f)
	}
}

// firstInstrs gives most registers a value that is not poison, and freezes some of the others.
func firstInstrs(r *rand.Rand) []api.Instr {
	var all []api.Instr
	for i, t := range registerTypes() {
		switch t {
		case api.Bool, api.I8, api.I32, api.I64:
			all = append(all, api.Instr{Op: api.OpConst, Type: t, Dst: i, Imm: int64(r.Intn(2))})
		case api.Ptr:
			all = append(all, api.Instr{Op: api.OpGlobal, Type: t, Dst: i, Sym: r.Intn(3)})
		}
	}
	for i := range all {
		if all[i].Op == api.OpConst && r.Intn(6) == 0 {
			all[i] = api.Instr{Op: api.OpFreeze, Type: all[i].Type, Dst: all[i].Dst, Args: []int{all[i].Dst}}
		}
	}
	return slices.DeleteFunc(all, func(api.Instr) bool { return r.Intn(10) == 0 })
}

// randomInstr returns an instruction that the table in DOC.md allows.
func randomInstr(r *rand.Rand, m api.Module, f api.Func) api.Instr {
	for {
		in := api.Instr{Op: 1 + r.Intn(api.OpLane), Dst: r.Intn(len(f.Regs)+1) - 1, NoWrap: r.Intn(3) == 0}
		if in.Dst >= 0 {
			in.Type = f.Regs[in.Dst]
		}
		for range r.Intn(4) {
			in.Args = append(in.Args, r.Intn(len(f.Regs)))
		}
		switch in.Op {
		case api.OpConst, api.OpLane, api.OpAlloca:
			in.Imm = int64(r.Intn(4))
			if in.Op == api.OpAlloca {
				in.Elem = []api.Type{api.I32, api.Ptr}[r.Intn(2)]
			}
		case api.OpGlobal:
			in.Sym = r.Intn(len(m.Globals))
		case api.OpCall:
			in.Sym = r.Intn(len(m.Funcs))
			in.Type = m.Funcs[in.Sym].Result
			in.Args = registersLike(r, f, m.Funcs[in.Sym].Params)
		}
		if opcode.Check(in, f, m) == api.OK {
			return in
		}
	}
}

func randomTerminator(r *rand.Rand, m api.Module, f api.Func) api.Terminator {
	edges := func(n int) []api.Edge {
		all := make([]api.Edge, n)
		for i := range all {
			to := 1 + r.Intn(len(f.Blocks)-1)
			all[i] = api.Edge{Block: to, Args: registersLike(r, f, f.Blocks[to].Params)}
		}
		return all
	}
	kind := api.Jump + r.Intn(api.TailCall)
	sym := r.Intn(len(m.Funcs))
	switch {
	case kind == api.TailCall && m.Funcs[sym].Result == f.Result:
		return api.Terminator{Kind: kind, Sym: sym, Args: registersLike(r, f, m.Funcs[sym].Params)}
	case kind == api.Jump && len(f.Blocks) > 1:
		return api.Terminator{Kind: kind, Succs: edges(1)}
	case kind == api.Branch && len(f.Blocks) > 1:
		return api.Terminator{Kind: kind, Args: []int{register(r, api.Bool)}, Succs: edges(2)}
	case kind == api.Switch && len(f.Blocks) > 1:
		return api.Terminator{Kind: kind, Args: []int{register(r, api.I32)}, Cases: []int64{1, 0, -1}, Succs: edges(4)}
	case kind == api.Trap:
		return api.Terminator{Kind: kind, Cases: []int64{16 + int64(r.Intn(240))}}
	case f.Result == api.Void:
		return api.Terminator{Kind: api.Return}
	}
	return api.Terminator{Kind: api.Return, Args: []int{register(r, f.Result)}}
}

// randomInput returns an input that is valid for a function.
func randomInput(r *rand.Rand, m api.Module, fn int) api.Input {
	in := api.Input{Cells: [][]api.Value{{i32(int64(r.Intn(3)))}, {at(r.Intn(3), num(int64(r.Intn(3))))}, {i32(7)}}[:r.Intn(4)]}
	f := m.Funcs[fn]
	for _, p := range f.Params {
		v := value.Int(f.Regs[p], int64(r.Intn(5)-2))
		if f.Regs[p] == api.Ptr {
			v = at(r.Intn(3), num(int64(r.Intn(4))))
		}
		if r.Intn(8) == 0 {
			v = value.Poison(f.Regs[p])
		}
		in.Args = append(in.Args, v)
	}
	return in
}

// P18.2 to P18.6, against a recursive interpreter
func TestRandomRuns(t *testing.T) {
	r := rand.New(rand.NewSource(1))
	kinds := map[int]int{}
	for range 3000 {
		m := randomModule(r)
		if d := verify.Module(m); d != (api.Diagnostic{}) {
			t.Fatal(d)
		}
		for range 5 {
			fn := r.Intn(len(m.Funcs))
			in := randomInput(r, m, fn)
			lim := api.Limits{Steps: r.Intn(400), Frames: r.Intn(12), Objects: r.Intn(12), Choice: int64(r.Intn(5) - 2), Symbolic: r.Intn(2) == 0}
			o, blocks := interp.Run(m, fn, in, lim), interp.Trace(m, fn, in, lim)
			want, wantBlocks := reference(m, fn, in, lim)
			if !sameOutcome(o, want) || !slices.Equal(blocks, wantBlocks) {
				t.Fatalf("%s, blocks %v, want\n%s, blocks %v", shown(o), blocks, shown(want), wantBlocks)
			}
			kinds[o.Kind]++
			expectConsequences(t, m, fn, in, lim, o)
		}
	}
	for kind := api.Returned; kind <= api.Unresolved; kind++ {
		if kinds[kind] < 100 {
			t.Errorf("%d runs of kind %d", kinds[kind], kind)
		}
	}
}

// expectConsequences checks P18.4 to P18.6 for an outcome, and that every value in it is valid.
func expectConsequences(t *testing.T, m api.Module, fn int, in api.Input, lim api.Limits, o api.Outcome) {
	t.Helper()
	higher := lim
	higher.Steps, higher.Frames, higher.Objects = lim.Steps+7, lim.Frames+3, lim.Objects+2
	if o.Kind != api.Exhausted && !sameOutcome(interp.Run(m, fn, in, higher), o) {
		t.Errorf("higher limits lead to something else than %s", shown(o))
	}
	if o.Steps > lim.Steps {
		t.Errorf("%d steps of %d", o.Steps, lim.Steps)
	}
	values := slices.Concat(o.Cells...)
	values = append(values, o.Output...)
	if o.Result != (api.Value{}) {
		values = append(values, o.Result)
	}
	for _, v := range values {
		if !value.Valid(v) || v.Type == api.Ptr && v.Object >= len(m.Globals) {
			t.Errorf("%v in an outcome", v)
		}
	}
	if o.Kind != api.Returned {
		return
	}
	fixed := []api.Value{i32(4), i32(5), of(api.I32, poison), of(api.I32, poison)}
	if len(in.Cells) > 2 {
		copy(fixed, in.Cells[2])
	}
	if !slices.Equal(o.Cells[2], fixed) {
		t.Errorf("cells that are read only have become %v", o.Cells[2])
	}
}

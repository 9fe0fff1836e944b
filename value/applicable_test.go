package value_test

import (
	"math"
	"slices"
	"strings"
	"testing"

	"burnish/api"
	"burnish/value"
)

// A signature is a result type and operand types that DOC.md's table allows for an operation.
type signature struct {
	op       int
	result   api.Type
	operands []api.Type
}

func (s signature) instr() api.Instr {
	return api.Instr{Op: s.op, Type: s.result}
}

// The rows of DOC.md's table. T stands for each of the types behind the slash.
var table = map[int]string{
	api.OpConst:  "T / bool i8 i32 i64",
	api.OpPoison: "T / bool i8 i32 i64 ptr v2 v4",
	api.OpFreeze: "T T / bool i8 i32 i64 v2 v4",
	api.OpCopy:   "T T / bool i8 i32 i64 ptr v2 v4",
	api.OpAdd:    "T T T / i8 i32 i64 v2 v4",
	api.OpSub:    "T T T / i8 i32 i64 v2 v4",
	api.OpMul:    "T T T / i8 i32 i64 v2 v4",
	api.OpAnd:    "T T T / bool i8 i32 i64 v2 v4",
	api.OpOr:     "T T T / bool i8 i32 i64 v2 v4",
	api.OpXor:    "T T T / bool i8 i32 i64 v2 v4",
	api.OpShl:    "T T T / i8 i32 i64",
	api.OpLshr:   "T T T / i8 i32 i64",
	api.OpAshr:   "T T T / i8 i32 i64",
	api.OpSdiv:   "T T T / i8 i32 i64",
	api.OpSrem:   "T T T / i8 i32 i64",
	api.OpEq:     "bool T T / bool i8 i32 i64 ptr",
	api.OpNe:     "bool T T / bool i8 i32 i64 ptr",
	api.OpSlt:    "bool T T / i8 i32 i64",
	api.OpSle:    "bool T T / i8 i32 i64",
	api.OpUlt:    "bool T T / i8 i32 i64",
	api.OpSelect: "T bool T T / bool i8 i32 i64 ptr v2 v4",
	api.OpSext:   "i32 i8, i64 i8, i64 i32",
	api.OpZext:   "i8 bool, i32 bool, i64 bool, i32 i8, i64 i8, i64 i32",
	api.OpTrunc:  "bool i8, bool i32, i8 i32, bool i64, i8 i64, i32 i64",
	api.OpGlobal: "ptr",
	api.OpOffset: "ptr ptr i64",
	api.OpPack:   "v2 i32 i32, v4 i32 i32 i32 i32",
	api.OpLane:   "i32 v2, i32 v4",
}

var typeNames = []string{"void", "bool", "i8", "i32", "i64", "ptr", "v2", "v4"}

func signatures() []signature {
	var all []signature
	for op, rows := range table {
		for row := range strings.SplitSeq(rows, ",") {
			pattern, each, general := strings.Cut(row, "/")
			if !general {
				each = "once"
			}
			for name := range strings.FieldsSeq(each) {
				var list []api.Type
				for word := range strings.FieldsSeq(strings.ReplaceAll(pattern, "T", name)) {
					list = append(list, api.Type(slices.Index(typeNames, word)))
				}
				all = append(all, signature{op, list[0], list[1:]})
			}
		}
	}
	return all
}

// forTypes calls f with all lists of up to four types of values.
func forTypes(f func(list []api.Type)) {
	var extend func(list []api.Type)
	extend = func(list []api.Type) {
		f(list)
		if len(list) == 4 {
			return
		}
		for _, ty := range types {
			extend(append(slices.Clone(list), ty))
		}
	}
	extend(nil)
}

// one returns a value of type t to which every operation that takes t can be applied.
func one(t api.Type) api.Value {
	if t == api.Ptr {
		return value.Pointer(1, 1)
	}
	return value.Int(t, 1)
}

func ones(list []api.Type) []api.Value {
	var all []api.Value
	for _, ty := range list {
		all = append(all, one(ty))
	}
	return all
}

// isNothing reports whether these are the results for an instruction that is not applicable.
func isNothing(v api.Value, trap, status int) bool {
	return v == (api.Value{}) && trap == 0 && status == 0
}

// P11.3: the instructions that are applicable to lists of valid operands are those of DOC.md's table
func TestApplicableSignatures(t *testing.T) {
	allowed := signatures()
	forTypes(func(list []api.Type) {
		args := ones(list)
		for op := -1; op <= api.OpFill+1; op++ {
			for _, result := range append([]api.Type{api.Void, -1, 8}, types...) {
				got := !isNothing(value.Eval(api.Instr{Op: op, Type: result}, args))
				want := slices.ContainsFunc(allowed, func(s signature) bool {
					return s.op == op && s.result == result && slices.Equal(s.operands, list)
				})
				if got != want {
					t.Errorf("op %d of type %d on %v: applicable %v", op, result, list, got)
				}
			}
		}
	})
	for _, op := range []int{api.OpAdd, api.OpPack, api.OpLane, math.MinInt, math.MaxInt} {
		five := []api.Type{api.I32, api.I32, api.I32, api.I32, api.I32}
		if !isNothing(value.Eval(api.Instr{Op: op, Type: api.V4}, ones(five))) {
			t.Errorf("op %d is applicable to five operands", op)
		}
	}
}

// P11.3
func TestInvalidOperands(t *testing.T) {
	for _, s := range signatures() {
		for i, ty := range s.operands {
			for _, bad := range invalidValues() {
				args := ones(s.operands)
				if bad.Type == ty {
					args[i] = bad
				} else {
					args[i].Type = bad.Type
					args[i].Object = -2
				}
				if v, trap, status := value.Eval(s.instr(), args); !isNothing(v, trap, status) {
					t.Errorf("op %d on %v: %v, %d, %d", s.op, args, v, trap, status)
				}
			}
		}
	}
}

// P11.3
func TestConstantsAndSymbols(t *testing.T) {
	for _, x := range []struct {
		t      api.Type
		lo, hi int64
	}{{api.Bool, 0, 1}, {api.I8, -128, 127}, {api.I32, math.MinInt32, math.MaxInt32}, {api.I64, math.MinInt64, math.MaxInt64}} {
		for _, n := range []int64{x.lo, x.hi} {
			if v, trap, status := value.Eval(api.Instr{Op: api.OpConst, Type: x.t, Imm: n}, nil); v != of(x.t, num(n)) || trap != 0 || status != 0 {
				t.Errorf("constant %d of type %d: %v", n, x.t, v)
			}
		}
		for _, n := range []int64{x.lo - 1, x.hi + 1} {
			if x.t != api.I64 && !isNothing(value.Eval(api.Instr{Op: api.OpConst, Type: x.t, Imm: n}, nil)) {
				t.Errorf("%d is a constant of type %d", n, x.t)
			}
		}
	}
	for _, sym := range []int{0, 1, 1000, math.MaxInt} {
		if v, trap, status := value.Eval(api.Instr{Op: api.OpGlobal, Type: api.Ptr, Sym: sym}, nil); v != at(sym, num(0)) || trap != 0 || status != 0 {
			t.Errorf("global %d: %v", sym, v)
		}
	}
	for _, sym := range []int{-1, math.MinInt} {
		if !isNothing(value.Eval(api.Instr{Op: api.OpGlobal, Type: api.Ptr, Sym: sym}, nil)) {
			t.Errorf("global %d", sym)
		}
	}
}

// P11.3
func TestLaneIndices(t *testing.T) {
	for _, v := range []api.Value{of(api.V2, num(5), poison), of(api.V4, num(5), poison, unknown, num(-8))} {
		lanes := int64(value.NumLanes(v.Type))
		for i := range lanes {
			got, trap, status := value.Eval(api.Instr{Op: api.OpLane, Type: api.I32, Imm: i}, []api.Value{v})
			if got != of(api.I32, v.Lanes[i]) || trap != 0 || status != 0 {
				t.Errorf("lane %d of %v: %v", i, v, got)
			}
		}
		for _, i := range []int64{-1, lanes, lanes + 1, math.MinInt64, math.MaxInt64} {
			if !isNothing(value.Eval(api.Instr{Op: api.OpLane, Type: api.I32, Imm: i}, []api.Value{v})) {
				t.Errorf("lane %d of %v", i, v)
			}
		}
	}
}

// P11.3: the fields that are not considered
func TestOtherFields(t *testing.T) {
	for _, s := range signatures() {
		args := ones(s.operands)
		in := s.instr()
		want, trap, status := value.Eval(in, args)
		in.Dst, in.Args, in.Elem, in.NoWrap = -7, []int{3, -1}, 99, true
		if s.op != api.OpConst && s.op != api.OpLane {
			in.Imm = math.MinInt64
		}
		if s.op != api.OpGlobal {
			in.Sym = -5
		}
		if v, tr, st := value.Eval(in, args); v != want || tr != trap || st != status {
			t.Errorf("op %d of type %d on %v: %v and %v", s.op, s.result, args, want, v)
		}
	}
}

// Rule 4
func TestOperandsStayAsTheyAre(t *testing.T) {
	for _, s := range signatures() {
		args := ones(s.operands)
		for i, ty := range s.operands {
			args[i] = value.Poison(ty)
			before := slices.Clone(args)
			value.Eval(s.instr(), args)
			if !slices.Equal(args, before) {
				t.Errorf("op %d changes %v to %v", s.op, before, args)
			}
		}
	}
}

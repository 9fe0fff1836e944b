package opcode_test

import (
	"math"
	"slices"
	"strings"
	"testing"

	"burnish/api"
	"burnish/opcode"
)

// The names of operations 1 to 33 and of types 0 to 7, in order.
var (
	operations = strings.Fields(`const poison freeze copy add sub mul and or xor shl lshr ashr sdiv srem eq ne slt sle ult
		select sext zext trunc global alloca offset load store call output pack lane`)
	typeNames = strings.Fields("void bool i8 i32 i64 ptr v2 v4")
)

// Numbers that are not those of operations, among them those of machine code.
var otherNumbers = []int{math.MinInt, -40, -1, 0, 34, 39, api.OpSpill, api.OpFill, 42, 99, 1 << 32, math.MaxInt}

// P12.1, P12.3
func TestNames(t *testing.T) {
	if len(operations) != 33 {
		t.Fatalf("%d operations", len(operations))
	}
	for i, name := range operations {
		op := i + 1
		if got := opcode.Name(op); got != name {
			t.Errorf("Name(%d) = %q, want %q", op, got, name)
		}
		if got, ok := opcode.Lookup(name); got != op || !ok {
			t.Errorf("Lookup(%q) = %d, %v", name, got, ok)
		}
	}
	for _, op := range otherNumbers {
		if got := opcode.Name(op); got != "" {
			t.Errorf("Name(%d) = %q", op, got)
		}
	}
	for _, name := range append([]string{"", " ", "Add", "add ", "adds", "ad", "spill", "fill", "trap", "\x00"}, typeNames...) {
		if got, ok := opcode.Lookup(name); got != 0 || ok {
			t.Errorf("Lookup(%q) = %d, %v", name, got, ok)
		}
	}
}

// P12.1, P12.3
func TestTypeNames(t *testing.T) {
	for i, name := range typeNames {
		if got := opcode.TypeName(api.Type(i)); got != name {
			t.Errorf("TypeName(%d) = %q, want %q", i, got, name)
		}
		if got, ok := opcode.TypeByName(name); got != api.Type(i) || !ok {
			t.Errorf("TypeByName(%q) = %d, %v", name, got, ok)
		}
	}
	for _, other := range []api.Type{math.MinInt, -1, 8, 9, 255, 256, 1 << 32, math.MaxInt} {
		if got := opcode.TypeName(other); got != "" {
			t.Errorf("TypeName(%d) = %q", other, got)
		}
	}
	for _, name := range append([]string{"", "I32", "i16", "i32 ", "v3", "v", "int"}, operations...) {
		if got, ok := opcode.TypeByName(name); got != 0 || ok {
			t.Errorf("TypeByName(%q) = %d, %v", name, got, ok)
		}
	}
}

// P12.1
func TestKindsOfOperations(t *testing.T) {
	impure := strings.Fields("freeze alloca load store call output")
	commutative := strings.Fields("add mul and or xor eq ne")
	for i, name := range operations {
		op := i + 1
		pure := !slices.Contains(impure, name)
		if opcode.IsPure(op) != pure {
			t.Errorf("IsPure of %s is %v", name, !pure)
		}
		speculatable := pure && name != "sdiv" && name != "srem"
		if opcode.IsSpeculatable(op) != speculatable {
			t.Errorf("IsSpeculatable of %s is %v", name, !speculatable)
		}
		if opcode.IsCommutative(op) != slices.Contains(commutative, name) {
			t.Errorf("IsCommutative of %s is %v", name, opcode.IsCommutative(op))
		}
	}
	for _, op := range otherNumbers {
		if opcode.IsPure(op) || opcode.IsSpeculatable(op) || opcode.IsCommutative(op) {
			t.Errorf("%d is no operation, but has a kind", op)
		}
	}
}

// P12.1
func TestAccess(t *testing.T) {
	for _, x := range []struct {
		t, elem api.Type
		cells   int
	}{
		{api.I8, api.I8, 1}, {api.I32, api.I32, 1}, {api.I64, api.I64, 1}, {api.Ptr, api.Ptr, 1}, {api.V2, api.I32, 2}, {api.V4, api.I32, 4},
		{api.Void, api.Void, 0}, {api.Bool, api.Void, 0}, {-1, api.Void, 0}, {8, api.Void, 0}, {math.MinInt, api.Void, 0}, {math.MaxInt, api.Void, 0},
	} {
		if elem, cells := opcode.Access(x.t); elem != x.elem || cells != x.cells {
			t.Errorf("Access(%d) = %d, %d", x.t, elem, cells)
		}
	}
}

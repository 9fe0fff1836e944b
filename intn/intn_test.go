package intn_test

import (
	"math"
	"math/big"
	"testing"

	"burnish/api"
	"burnish/intn"
)

type binary func(t api.Type, a, b int64) (int64, bool)

// The tests compute what they expect in exact arithmetic, from these ranges.
var ranges = []struct {
	t      api.Type
	bits   int
	lo, hi int64
}{
	{api.Bool, 1, 0, 1},
	{api.I8, 8, -128, 127},
	{api.I32, 32, math.MinInt32, math.MaxInt32},
	{api.I64, 64, math.MinInt64, math.MaxInt64},
}

var otherTypes = []api.Type{math.MinInt64, -5, -1, api.Void, api.Ptr, api.V2, api.V4, 8, 99, math.MaxInt64}

// edges returns the integers near the bounds of all types, and some between.
func edges() []int64 {
	all := []int64{10, 77, -77, 1000, 123456789, -987654321, 0x123456789abcdef, -0x7edcba9876543210, 1 << 16, 3 << 30}
	for _, bits := range []int{0, 1, 3, 4, 7, 8, 31, 32, 33, 62, 63} {
		for d := int64(-2); d <= 2; d++ {
			all = append(all, 1<<bits+d, -(1<<bits)+d)
		}
	}
	return all
}

func exactWrap(bits int, lo int64, n *big.Int) int64 {
	modulus := new(big.Int).Lsh(big.NewInt(1), uint(bits))
	offset := new(big.Int).Sub(n, big.NewInt(lo))
	offset.Mod(offset, modulus) // Euclidean: not negative
	return offset.Add(offset, big.NewInt(lo)).Int64()
}

// forPairs calls f with all pairs of edges, and with their wrapped values.
func forPairs(f func(a, b int64, wrap func(*big.Int) int64, x, y *big.Int, t api.Type)) {
	for _, r := range ranges {
		wrap := func(n *big.Int) int64 { return exactWrap(r.bits, r.lo, n) }
		for _, a := range edges() {
			for _, b := range edges() {
				f(a, b, wrap, big.NewInt(wrap(big.NewInt(a))), big.NewInt(wrap(big.NewInt(b))), r.t)
			}
		}
	}
}

// P1.1
func TestBits(t *testing.T) {
	for _, r := range ranges {
		if got := intn.Bits(r.t); got != r.bits {
			t.Errorf("Bits(%d) = %d, want %d", r.t, got, r.bits)
		}
	}
	for _, other := range otherTypes {
		if got := intn.Bits(other); got != 0 {
			t.Errorf("Bits(%d) = %d, want 0", other, got)
		}
	}
}

// P1.1
func TestWrapAndUnsigned(t *testing.T) {
	for _, r := range ranges {
		for _, n := range edges() {
			got, want := intn.Wrap(r.t, n), exactWrap(r.bits, r.lo, big.NewInt(n))
			if got != want || got < r.lo || got > r.hi {
				t.Errorf("Wrap(%d, %d) = %d, want %d", r.t, n, got, want)
			}
			low := new(big.Int).Mod(big.NewInt(n), new(big.Int).Lsh(big.NewInt(1), uint(r.bits)))
			if got := intn.Unsigned(r.t, n); got != low.Uint64() {
				t.Errorf("Unsigned(%d, %d) = %d, want %d", r.t, n, got, low)
			}
		}
	}
}

// P1.2
func TestAddSubMul(t *testing.T) {
	operations := []struct {
		name  string
		f     binary
		exact func(z, x, y *big.Int) *big.Int
	}{{"Add", intn.Add, (*big.Int).Add}, {"Sub", intn.Sub, (*big.Int).Sub}, {"Mul", intn.Mul, (*big.Int).Mul}}
	for _, op := range operations {
		forPairs(func(a, b int64, wrap func(*big.Int) int64, x, y *big.Int, ty api.Type) {
			exact := op.exact(new(big.Int), x, y)
			want := wrap(exact)
			overflow := exact.Cmp(big.NewInt(want)) != 0
			if got, o := op.f(ty, a, b); got != want || o != overflow {
				t.Errorf("%s(%d, %d, %d) = %d, %v, want %d, %v", op.name, ty, a, b, got, o, want, overflow)
			}
		})
	}
}

// P1.3
func TestShifts(t *testing.T) {
	operations := []struct {
		name  string
		f     binary
		exact func(ty api.Type, a int64, n uint) *big.Int
	}{
		{"Shl", intn.Shl, func(ty api.Type, a int64, n uint) *big.Int { return new(big.Int).Lsh(big.NewInt(a), n) }},
		{"Lshr", intn.Lshr, func(ty api.Type, a int64, n uint) *big.Int {
			low := new(big.Int).SetUint64(intn.Unsigned(ty, a))
			return low.Rsh(low, n)
		}},
		{"Ashr", intn.Ashr, func(ty api.Type, a int64, n uint) *big.Int { return new(big.Int).Rsh(big.NewInt(a), n) }},
	}
	for _, op := range operations {
		forPairs(func(a, b int64, wrap func(*big.Int) int64, x, _ *big.Int, ty api.Type) {
			amount := intn.Unsigned(ty, b)
			want, ok := int64(0), amount < uint64(intn.Bits(ty))
			if ok {
				want = wrap(op.exact(ty, x.Int64(), uint(amount)))
			}
			if got, o := op.f(ty, a, b); got != want || o != ok {
				t.Errorf("%s(%d, %d, %d) = %d, %v, want %d, %v", op.name, ty, a, b, got, o, want, ok)
			}
		})
	}
}

// P1.4
func TestDivision(t *testing.T) {
	forPairs(func(a, b int64, wrap func(*big.Int) int64, x, y *big.Int, ty api.Type) {
		quotient, remainder, ok := int64(0), int64(0), y.Sign() != 0
		if ok {
			q, r := new(big.Int).QuoRem(x, y, new(big.Int)) // rounded toward zero
			quotient, remainder = wrap(q), r.Int64()
		}
		if got, o := intn.Sdiv(ty, a, b); got != quotient || o != ok {
			t.Errorf("Sdiv(%d, %d, %d) = %d, %v, want %d, %v", ty, a, b, got, o, quotient, ok)
		}
		if got, o := intn.Srem(ty, a, b); got != remainder || o != ok {
			t.Errorf("Srem(%d, %d, %d) = %d, %v, want %d, %v", ty, a, b, got, o, remainder, ok)
		}
	})
}

// P1.4
func TestLeastByMinusOne(t *testing.T) {
	for _, r := range ranges[1:] {
		quotient, ok := intn.Sdiv(r.t, r.lo, -1)
		if quotient != r.lo || !ok {
			t.Errorf("Sdiv(%d, %d, -1) = %d, %v", r.t, r.lo, quotient, ok)
		}
		remainder, ok := intn.Srem(r.t, r.lo, -1)
		if remainder != 0 || !ok {
			t.Errorf("Srem(%d, %d, -1) = %d, %v", r.t, r.lo, remainder, ok)
		}
	}
}

// P1.5
func TestUlt(t *testing.T) {
	forPairs(func(a, b int64, _ func(*big.Int) int64, _, _ *big.Int, ty api.Type) {
		if got, want := intn.Ult(ty, a, b), intn.Unsigned(ty, a) < intn.Unsigned(ty, b); got != want {
			t.Errorf("Ult(%d, %d, %d) = %v", ty, a, b, got)
		}
	})
	if !intn.Ult(api.I64, 1, -1) || intn.Ult(api.I64, -1, 1) || intn.Ult(api.I8, 256, 0) || !intn.Ult(api.Bool, 2, 1) {
		t.Error("Ult compares something else than the lowest bits, unsigned")
	}
}

// P1.5
func TestZext(t *testing.T) {
	for _, from := range ranges {
		for _, to := range ranges {
			for _, n := range edges() {
				low := new(big.Int).SetUint64(intn.Unsigned(from.t, n))
				if got, want := intn.Zext(from.t, to.t, n), exactWrap(to.bits, to.lo, low); got != want {
					t.Errorf("Zext(%d, %d, %d) = %d, want %d", from.t, to.t, n, got, want)
				}
			}
		}
	}
}

// P1.6
func TestConsequences(t *testing.T) {
	forPairs(func(a, b int64, _ func(*big.Int) int64, _, _ *big.Int, ty api.Type) {
		x, y := intn.Wrap(ty, a), intn.Wrap(ty, b)
		if intn.Wrap(ty, x) != x {
			t.Errorf("Wrap(%d, %d) is not wrapped", ty, a)
		}
		for i, f := range []binary{intn.Add, intn.Sub, intn.Mul} {
			n, o := f(ty, a, b)
			if m, p := f(ty, x, y); m != n || p != o {
				t.Errorf("operation %d of type %d: %d, %d and their wrapped values differ", i, ty, a, b)
			}
		}
		if y == 0 {
			return
		}
		quotient, _ := intn.Sdiv(ty, a, b)
		remainder, _ := intn.Srem(ty, a, b)
		product, _ := intn.Mul(ty, quotient, b)
		if sum, _ := intn.Add(ty, product, remainder); sum != x {
			t.Errorf("type %d: %d divided by %d: quotient %d, remainder %d", ty, a, b, quotient, remainder)
		}
	})
}

// All promises, for types that are not integer types.
func TestOtherTypes(t *testing.T) {
	for _, other := range otherTypes {
		for _, a := range edges() {
			if intn.Wrap(other, a) != 0 || intn.Unsigned(other, a) != 0 {
				t.Errorf("type %d: %d does not wrap to 0", other, a)
			}
			if intn.Ult(other, 0, a) || intn.Ult(other, a, 0) {
				t.Errorf("type %d: Ult of 0 and %d", other, a)
			}
			for _, r := range ranges {
				if intn.Zext(other, r.t, a) != 0 || intn.Zext(r.t, other, a) != 0 {
					t.Errorf("Zext of %d between types %d and %d", a, other, r.t)
				}
			}
			for i, f := range []binary{intn.Add, intn.Sub, intn.Mul, intn.Shl, intn.Lshr, intn.Ashr, intn.Sdiv, intn.Srem} {
				if n, b := f(other, a, 1); n != 0 || b {
					t.Errorf("operation %d, type %d, of %d and 1: %d, %v", i, other, a, n, b)
				}
			}
		}
	}
}

func TestExamples(t *testing.T) {
	for i, x := range []struct {
		f    binary
		t    api.Type
		a, b int64
		want int64
		flag bool
	}{
		{intn.Add, api.I8, 127, 1, -128, true},
		{intn.Mul, api.I64, math.MinInt64, -1, math.MinInt64, true},
		{intn.Mul, api.I64, -1, math.MinInt64, math.MinInt64, true},
		{intn.Add, api.Bool, 1, 1, 0, true},
		{intn.Lshr, api.I8, -1, 4, 15, true},
		{intn.Ashr, api.I8, -8, 1, -4, true},
		{intn.Shl, api.I32, 1, 32, 0, false},
		{intn.Shl, api.I32, 1, -1, 0, false},
	} {
		if got, flag := x.f(x.t, x.a, x.b); got != x.want || flag != x.flag {
			t.Errorf("example %d: %d, %v", i, got, flag)
		}
	}
	if intn.Zext(api.I8, api.I32, -1) != 255 || intn.Zext(api.I64, api.I8, 511) != -1 {
		t.Error("Zext")
	}
}

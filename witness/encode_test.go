package witness_test

import (
	"bytes"
	"math"
	"math/rand"
	"slices"
	"testing"

	"burnish/api"
	"burnish/expr"
	"burnish/varint"
	"burnish/witness"
)

// numbers returns the encodings of integers one behind the other.
func numbers(list ...int) []byte {
	var b []byte
	for _, n := range list {
		b = varint.AppendInt(b, n)
	}
	return b
}

func encode(t *testing.T, w api.Witness) []byte {
	t.Helper()
	b, err := witness.Encode(w)
	if err != api.OK {
		t.Fatalf("Encode %v\n%+v", err, w)
	}
	return b
}

// P24.2: what is written, and in which order
func TestEncode(t *testing.T) {
	for name, x := range map[string]struct {
		w    api.Witness
		want []byte
	}{
		"nothing":     {api.Witness{}, []byte{0, 0, 0}},
		"calls":       {api.Witness{Expand: []api.Pos{{Block: 3, Index: -1}, {Block: 4, Index: 70}}}, numbers(2, 3, -1, 4, 70, 0, 0)},
		"a cut point": {api.Witness{CutPoints: []api.CutPoint{{Target: 5, Source: -6}}}, numbers(0, 1, 5, -6, 0, 0)},
		"paths": {api.Witness{Paths: []api.Path{path(7, -1, []int{1, 2, -1}, nil), path(-8, 300, nil, []int{9})}},
			numbers(0, 0, 2, 7, 3, 1, 2, -1, 0, -1, -8, 0, 1, 9, 300)},
		"invariants": {
			api.Witness{CutPoints: []api.CutPoint{{}, {Target: 1, Source: 2, Invariants: []api.Invariant{
				holds(10, nil), ofSource(11, expr.Reg(12)), exactly(13, expr.Apply(-14, 15, expr.Const(16, math.MinInt64))), {Exact: true, Reg: -17},
			}}}},
			numbers(0, 2, 0, 0, 0, 1, 2, 4, 0, 10, 0, 1, 11, 1, api.OpCopy, 0, 12, 3, 13, 2, api.OpConst, 16, math.MinInt64, -14, 15, 0, 2, -17, 0, 0),
		},
	} {
		if got := encode(t, x.w); !bytes.Equal(got, x.want) {
			t.Errorf("%s: %x, want %x", name, got, x.want)
		}
		if w, err := witness.Decode(x.want); err != api.OK || !witness.Equal(w, x.w) {
			t.Errorf("%s: Decode %v, %+v", name, err, w)
		}
	}
}

// P24.2: at the limits and beyond them
func TestEncodeLimits(t *testing.T) {
	one := func(inv api.Invariant) []api.CutPoint {
		return []api.CutPoint{{}, {Invariants: []api.Invariant{{}, inv}}}
	}
	for name, of := range map[string]func(more int) api.Witness{
		"calls":      func(more int) api.Witness { return api.Witness{Expand: make([]api.Pos, api.MaxPaths+more)} },
		"cut points": func(more int) api.Witness { return api.Witness{CutPoints: make([]api.CutPoint, api.MaxCutPoints+more)} },
		"paths":      func(more int) api.Witness { return api.Witness{Paths: make([]api.Path, api.MaxPaths+more)} },
		"invariants": func(more int) api.Witness {
			return api.Witness{CutPoints: []api.CutPoint{{}, {Invariants: make([]api.Invariant, 2*api.MaxRegs+more)}}}
		},
		"nodes": func(more int) api.Witness {
			return api.Witness{CutPoints: one(holds(0, make([]api.ExprNode, api.MaxExprLen+more)))}
		},
		"a target": func(more int) api.Witness {
			return api.Witness{Paths: []api.Path{{}, {Target: make([]int, api.MaxPathLen+more)}}}
		},
		"a source": func(more int) api.Witness {
			return api.Witness{Paths: []api.Path{{}, {Source: make([]int, api.MaxPathLen+more)}}}
		},
	} {
		b := encode(t, of(0))
		if w, err := witness.Decode(b); err != api.OK || !witness.Equal(w, of(0)) {
			t.Errorf("%s: Decode %v", name, err)
		}
		if b, err := witness.Encode(of(1)); err != api.ErrLimit || len(b) != 0 {
			t.Errorf("%s, one more: %x, %v", name, b, err)
		}
	}
}

func expectDecode(t *testing.T, name string, b []byte, want api.Errno) {
	t.Helper()
	if w, err := witness.Decode(b); err != want || err != api.OK && !witness.Equal(w, api.Witness{}) {
		t.Errorf("%s: %v, want %v\n%+v", name, err, want, w)
	}
}

// P24.2
func TestDecodeErrors(t *testing.T) {
	bad, unfinished := []byte{0x80, 0}, []byte{0x80}
	with := func(b []byte, more ...byte) []byte { return append(b, more...) }
	inv := func(list ...int) []byte { return numbers(append([]int{0, 1, 5, 6, 1}, list...)...) }
	expectDecode(t, "example 2", nil, api.ErrShort)
	for name, x := range map[string]struct {
		b    []byte
		want api.Errno
	}{
		"the witness without anything":            {numbers(0, 0, 0), api.OK},
		"a byte left over":                        {numbers(0, 0, 0, 0), api.ErrLong},
		"what is left over need be nothing":       {with(numbers(0, 0, 0), bad...), api.ErrLong},
		"a number with a superfluous byte":        {bad, api.ErrFormat},
		"a number that does not end":              {with(numbers(0, 0), unfinished...), api.ErrShort},
		"a negative number of calls":              {numbers(-1), api.ErrLimit},
		"too many calls":                          {numbers(api.MaxPaths + 1), api.ErrLimit},
		"many calls that are not there":           {numbers(api.MaxPaths), api.ErrShort},
		"the greatest number of calls":            {numbers(math.MaxInt), api.ErrLimit},
		"a superfluous byte in a call":            {with(numbers(2, 3), bad...), api.ErrFormat},
		"a negative number of cut points":         {numbers(0, -1, 0), api.ErrLimit},
		"too many cut points":                     {numbers(0, api.MaxCutPoints+1, 0, 0), api.ErrLimit},
		"many cut points that are not there":      {numbers(0, api.MaxCutPoints, 1, 2), api.ErrShort},
		"a negative number of paths":              {numbers(0, 0, math.MinInt), api.ErrLimit},
		"too many paths":                          {numbers(0, 0, api.MaxPaths+1), api.ErrLimit},
		"many paths that are not there":           {numbers(0, 0, api.MaxPaths), api.ErrShort},
		"a negative number of invariants":         {numbers(0, 1, 5, 6, -1, 0), api.ErrLimit},
		"too many invariants":                     {numbers(0, 1, 5, 6, 2*api.MaxRegs+1), api.ErrLimit},
		"many invariants that are not there":      {numbers(0, 1, 5, 6, 2*api.MaxRegs), api.ErrShort},
		"a flag that is too great":                {inv(4), api.ErrFormat},
		"a negative flag":                         {inv(-1, 0, 0, 0), api.ErrFormat},
		"the greatest flag":                       {inv(math.MaxInt), api.ErrFormat},
		"a flag, and then what does not end":      {with(inv(5), unfinished...), api.ErrFormat},
		"no flag":                                 {inv(), api.ErrShort},
		"a negative number of nodes":              {inv(0, 7, -1), api.ErrLimit},
		"too many nodes":                          {inv(3, 7, api.MaxExprLen+1), api.ErrLimit},
		"many nodes that are not there":           {inv(3, 7, api.MaxExprLen), api.ErrShort},
		"a superfluous byte in a node":            {with(inv(3, 7, 1, 4, 0), bad...), api.ErrFormat},
		"a list of a negative length":             {numbers(0, 0, 1, 7, -1, 0, 0), api.ErrFormat},
		"a source of a negative length":           {numbers(0, 0, 1, 7, 0, -1, 0), api.ErrFormat},
		"a list that is not there":                {numbers(0, 0, 1, 7, 3, 1), api.ErrShort},
		"a long list that is not there":           {numbers(0, 0, 1, 7, api.MaxPathLen+1, 1), api.ErrShort},
		"a superfluous byte in a list":            {with(numbers(0, 0, 1, 7, 2, 1), bad...), api.ErrFormat},
		"a flag before too many nodes":            {inv(9, 7, api.MaxExprLen+1), api.ErrFormat},
		"too many invariants before a flag":       {numbers(0, 1, 5, 6, 2*api.MaxRegs+1, 9), api.ErrLimit},
		"too many nodes before the end":           {with(inv(3, 7, api.MaxExprLen+1), unfinished...), api.ErrLimit},
		"a superfluous byte before too many":      {with(with(numbers(0, 1), bad...), numbers(6, -1)...), api.ErrFormat},
		"too many calls before a superfluous one": {with(numbers(-1), bad...), api.ErrLimit},
	} {
		expectDecode(t, name, x.b, x.want)
	}
}

// P24.2: a list may be too long in itself.
func TestDecodeLongLists(t *testing.T) {
	full, long := make([]int, api.MaxPathLen), make([]int, api.MaxPathLen+1)
	begin := numbers(0, 0, 1, 7)
	expectDecode(t, "a full target and source", append(varint.AppendInts(varint.AppendInts(begin, full), full), 0), api.OK)
	expectDecode(t, "a long target", append(varint.AppendInts(varint.AppendInts(begin, long), full), 0), api.ErrLimit)
	expectDecode(t, "a long source", append(varint.AppendInts(varint.AppendInts(begin, full), long), 0), api.ErrLimit)
	expectDecode(t, "a long target at the end", varint.AppendInts(begin, long), api.ErrLimit)
	expectDecode(t, "a long source, then a superfluous byte", append(varint.AppendInts(varint.AppendInts(begin, nil), long), 0x80, 0), api.ErrLimit)
	expectDecode(t, "a long target without its end", varint.AppendInts(begin, long)[:len(begin)+api.MaxPathLen+2], api.ErrShort)
	flagged := append(numbers(0, 1, 5, 6, 1, 4, 7, 0, 1, 7), varint.AppendInts(nil, long)...)
	expectDecode(t, "a flag before a long target", flagged, api.ErrFormat)
}

// P24.2 and P24.4: an encoding that is cut off is too short, and one with more behind it too long.
func TestDecodePrefixes(t *testing.T) {
	b := encode(t, sample())
	expectDecode(t, "the whole", b, api.OK)
	for n := range b {
		expectDecode(t, "a prefix", b[:n], api.ErrShort)
		expectDecode(t, "the whole and more", append(slices.Clone(b), b[:n+1]...), api.ErrLong)
	}
}

// P24.4
func TestRoundTrip(t *testing.T) {
	r := rand.New(rand.NewSource(7))
	for range 2000 {
		w := sample()
		for range r.Intn(20) {
			damage(r, &w)
		}
		b := encode(t, w)
		again, err := witness.Decode(b)
		if err != api.OK || !witness.Equal(again, w) {
			t.Fatalf("%v, %+v, want %+v", err, again, w)
		}
		if !bytes.Equal(encode(t, again), b) {
			t.Fatalf("%x, want %x", encode(t, again), b)
		}
	}
}

// P24.4: bytes that are an encoding are the encoding of what they decode to.
func TestEncodingIsCanonical(t *testing.T) {
	r := rand.New(rand.NewSource(8))
	original := encode(t, sample())
	decoded, codes := 0, map[api.Errno]int{}
	for range 40000 {
		b := slices.Clone(original)
		for range 1 + r.Intn(3) {
			switch i := r.Intn(len(b)); r.Intn(4) {
			case 0:
				b = slices.Delete(b, i, i+1)
			case 1:
				b = slices.Insert(b, i, byte(r.Intn(256)))
			default:
				b[i] = byte(r.Intn(256))
			}
		}
		given := slices.Clone(b)
		w, err := witness.Decode(b)
		codes[err]++
		if !bytes.Equal(b, given) {
			t.Fatalf("%x has become %x", given, b)
		}
		if err != api.OK {
			if !witness.Equal(w, api.Witness{}) {
				t.Fatalf("%v with %+v", err, w)
			}
			continue
		}
		decoded++
		if again := encode(t, w); !bytes.Equal(again, b) {
			t.Fatalf("%x is encoded as %x", b, again)
		}
	}
	if decoded < 1000 || codes[api.ErrShort] < 100 || codes[api.ErrFormat] < 100 || codes[api.ErrLimit] < 100 || codes[api.ErrLong] < 100 {
		t.Errorf("%d witnesses, %v", decoded, codes)
	}
}

// P24.4: different witnesses have different encodings, and none begins with another.
func TestEncodingsDiffer(t *testing.T) {
	r := rand.New(rand.NewSource(9))
	found := map[string]api.Witness{}
	for range 3000 {
		w := sample()
		for range 1 + r.Intn(2) {
			damage(r, &w)
		}
		b := string(encode(t, w))
		if other, same := found[b]; same && !witness.Equal(w, other) {
			t.Fatalf("%+v and %+v", w, other)
		}
		found[b] = w
	}
}

// P24.2: a witness of a million numbers
func TestLargeWitness(t *testing.T) {
	w := api.Witness{Paths: make([]api.Path, api.MaxPaths), Expand: make([]api.Pos, api.MaxPaths)}
	for i := range w.Paths {
		w.Paths[i].Target = slices.Repeat([]int{math.MinInt}, api.MaxPathLen)
		w.Paths[i].Source = slices.Repeat([]int{i}, api.MaxPathLen)
	}
	e := slices.Repeat(expr.Reg(3), api.MaxExprLen)
	for i := range api.MaxCutPoints {
		w.CutPoints = append(w.CutPoints, api.CutPoint{Target: i, Invariants: []api.Invariant{holds(i, e)}})
	}
	if got, err := witness.Decode(encode(t, w)); err != api.OK || !witness.Equal(got, w) {
		t.Errorf("Decode %v", err)
	}
}

package varint_test

import (
	"bytes"
	"math"
	"slices"
	"strings"
	"testing"

	"burnish/varint"
)

// ints returns the integers at which the number of groups changes, and some between.
func ints() []int {
	all := []int{5, 300, -300, 123456789, -987654321, math.MaxInt, math.MaxInt - 1, math.MinInt, math.MinInt + 1}
	for bits := range 63 {
		for d := -2; d <= 2; d++ {
			all = append(all, 1<<bits+d, -(1<<bits)+d)
		}
	}
	slices.Sort(all)
	return slices.Compact(all)
}

func lists() [][]int {
	all := [][]int{nil, {0, 0}, {1, 0}, {math.MinInt, math.MaxInt}, make([]int, 63), make([]int, 64), make([]int, 200), ints()}
	for _, n := range ints() {
		all = append(all, []int{n}, []int{n, 7})
	}
	return all
}

func texts() []string {
	all := []string{"", "a", "ab", "\x00", "\x00\x00", "\x80", "\xff\xfe", "é", "日本"}
	for _, n := range []int{63, 64, 65, 127, 128, 8191, 8192, 60000} {
		all = append(all, strings.Repeat("x", n))
	}
	return all
}

// encodings returns the encodings of many values of each kind.
func encodings() [][][]byte {
	all := make([][][]byte, 3)
	for _, n := range ints() {
		all[0] = append(all[0], varint.AppendInt(nil, n))
	}
	for _, l := range lists() {
		all[1] = append(all[1], varint.AppendInts(nil, l))
	}
	for _, s := range texts() {
		all[2] = append(all[2], varint.AppendString(nil, s))
	}
	return all
}

// The encoding of an integer, with the document's examples.
func TestEncodingOfInt(t *testing.T) {
	for _, x := range []struct {
		n    int
		want string
	}{
		{0, "\x00"}, {-1, "\x01"}, {1, "\x02"}, {63, "\x7e"}, {-64, "\x7f"}, {64, "\x80\x01"}, {-65, "\x81\x01"},
		{8191, "\xfe\x7f"}, {-8192, "\xff\x7f"}, {8192, "\x80\x80\x01"},
		{math.MaxInt, "\xfe\xff\xff\xff\xff\xff\xff\xff\xff\x01"},
		{math.MinInt, "\xff\xff\xff\xff\xff\xff\xff\xff\xff\x01"},
		{1 << 62, "\x80\x80\x80\x80\x80\x80\x80\x80\x80\x01"},
		{1<<62 - 1, "\xfe\xff\xff\xff\xff\xff\xff\xff\x7f"},
	} {
		if got := varint.AppendInt(nil, x.n); string(got) != x.want {
			t.Errorf("AppendInt(nil, %d) = %x, want %x", x.n, got, x.want)
		}
	}
}

func TestEncodingOfListAndString(t *testing.T) {
	for _, x := range []struct {
		got  []byte
		want string
	}{
		{varint.AppendInts(nil, nil), "\x00"},
		{varint.AppendInts(nil, []int{}), "\x00"},
		{varint.AppendInts(nil, []int{1, 0}), "\x04\x02\x00"},
		{varint.AppendInts(nil, []int{-65, 63}), "\x04\x81\x01\x7e"},
		{varint.AppendString(nil, ""), "\x00"},
		{varint.AppendString(nil, "ab"), "\x04ab"},
		{varint.AppendString(nil, "\xff\x00é"), "\x08\xff\x00\xc3\xa9"},
		{varint.AppendString(nil, strings.Repeat("z", 64)), "\x80\x01" + strings.Repeat("z", 64)},
	} {
		if string(x.got) != x.want {
			t.Errorf("%x, want %x", x.got, x.want)
		}
	}
}

// appended returns what each function appends to b, and the encodings alone.
func appended(b []byte) (joined, alone [][]byte) {
	joined = [][]byte{varint.AppendInt(b, 1<<40), varint.AppendInts(b, []int{1, 1 << 20, -3}), varint.AppendString(b, "text")}
	return joined, [][]byte{varint.AppendInt(nil, 1<<40), varint.AppendInts(nil, []int{1, 1 << 20, -3}), varint.AppendString(nil, "text")}
}

// P2.1
func TestAppendFollowsItsArgument(t *testing.T) {
	for _, b := range [][]byte{nil, {}, {7}, {0x80, 0, 255}} {
		joined, alone := appended(b)
		for i := range joined {
			if want := slices.Concat(b, alone[i]); !bytes.Equal(joined[i], want) {
				t.Errorf("function %d, after %x: %x, want %x", i, b, joined[i], want)
			}
		}
	}
}

// P2.1
func TestAppendReturnsNewMemory(t *testing.T) {
	whole := bytes.Repeat([]byte{9}, 100)
	joined, _ := appended(whole[:3])
	for i, r := range joined {
		r = r[:cap(r)]
		for j := range r {
			r[j] = byte(i)
		}
	}
	if !bytes.Equal(whole, bytes.Repeat([]byte{9}, 100)) {
		t.Errorf("the argument and its spare capacity are now %x", whole)
	}
	for i, r := range joined {
		if r[0] != byte(i) {
			t.Errorf("result %d shares memory with another one", i)
		}
	}
	l := []int{1, -2, 3}
	varint.AppendInts(nil, l)
	if !slices.Equal(l, []int{1, -2, 3}) {
		t.Errorf("the list is now %v", l)
	}
}

// P2.8
func TestEncodingsArePrefixFree(t *testing.T) {
	for kind, all := range encodings() {
		slices.SortFunc(all, bytes.Compare)
		for i := range len(all) - 1 { // a prefix sorts directly before what it begins, or before another such one
			if bytes.HasPrefix(all[i+1], all[i]) {
				t.Errorf("kind %d: %x is a prefix of %x", kind, all[i], all[i+1])
			}
		}
	}
}

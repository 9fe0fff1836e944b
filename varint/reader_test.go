package varint_test

import (
	"bytes"
	"slices"
	"strings"
	"testing"

	"burnish/api"
	"burnish/varint"
)

const (
	readInt = iota
	readInts
	readString
)

// read reads a value of a kind from r, and returns its encoding; zero tells a zero value.
func read(r *varint.Reader, kind int) (encoded []byte, zero bool) {
	switch kind {
	case readInt:
		n := r.Int()
		return varint.AppendInt(nil, n), n == 0
	case readInts:
		l := r.Ints()
		return varint.AppendInts(nil, l), len(l) == 0
	default:
		s := r.String()
		return varint.AppendString(nil, s), s == ""
	}
}

// P2.2
func TestReadsOneAfterTheOther(t *testing.T) {
	b := varint.AppendString(varint.AppendInts(varint.AppendInt(nil, -70), []int{5, 64}), "text")
	r := varint.NewReader(append(b, 0xff))
	if r.Len() != 2+4+5+1 || r.Err() != api.OK {
		t.Fatalf("at the start: Len %d, Err %v", r.Len(), r.Err())
	}
	if n := r.Int(); n != -70 || r.Len() != 4+5+1 {
		t.Errorf("Int: %d, Len %d", n, r.Len())
	}
	if l := r.Ints(); !slices.Equal(l, []int{5, 64}) || r.Len() != 5+1 {
		t.Errorf("Ints: %v, Len %d", l, r.Len())
	}
	if s := r.String(); s != "text" || r.Len() != 1 || r.Err() != api.OK {
		t.Errorf("String: %q, Len %d, Err %v", s, r.Len(), r.Err())
	}
}

// P2.2
func TestReaderKeepsACopy(t *testing.T) {
	b := []byte{2, 4, 2, 0, 4, 'a', 'b'}
	r := varint.NewReader(b)
	clear(b)
	n, l, s := r.Int(), r.Ints(), r.String()
	if n != 1 || !slices.Equal(l, []int{1, 0}) || s != "ab" || r.Err() != api.OK {
		t.Errorf("%d, %v, %q, %v", n, l, s, r.Err())
	}
	b = []byte{2, 4, 2, 0}
	r = varint.NewReader(b[1:])
	clear(r.Ints())
	if !bytes.Equal(b, []byte{2, 4, 2, 0}) {
		t.Errorf("the bytes are now %x", b)
	}
}

// P2.2
func TestReadersAreIndependent(t *testing.T) {
	b := []byte{2, 4}
	first, second := varint.NewReader(b), varint.NewReader(b)
	if first.Int() != 1 || first.Int() != 2 || second.Len() != 2 || second.Int() != 1 {
		t.Error("one reader advanced the other one")
	}
}

// P2.3
func TestIntErrors(t *testing.T) {
	many := func(n int, tail string) string { return strings.Repeat("\x80", n) + tail }
	for _, x := range []struct {
		b    string
		want api.Errno
	}{
		{"", api.ErrShort}, {many(1, ""), api.ErrShort}, {many(9, ""), api.ErrShort},
		{many(10, ""), api.ErrFormat}, {many(10, "\x01"), api.ErrFormat}, {many(11, ""), api.ErrFormat}, {strings.Repeat("\xff", 10), api.ErrFormat},
		{many(1, "\x00"), api.ErrFormat}, {many(2, "\x00"), api.ErrFormat}, {many(8, "\x00"), api.ErrFormat}, {many(9, "\x00"), api.ErrFormat},
		{many(9, "\x02"), api.ErrFormat}, {many(9, "\x03"), api.ErrFormat}, {many(9, "\x7f"), api.ErrFormat},
		{"\x00", api.OK}, {"\x00\x80", api.OK}, {many(1, "\x01"), api.OK}, {many(8, "\x7f"), api.OK}, {many(9, "\x01"), api.OK}, {many(9, "\x01\x80"), api.OK},
	} {
		r := varint.NewReader([]byte(x.b))
		if r.Int(); r.Err() != x.want {
			t.Errorf("Int of %x: %v, want %v", x.b, r.Err(), x.want)
		}
	}
}

// P2.4
func TestListAndStringErrors(t *testing.T) {
	for _, x := range []struct {
		b    string
		kind int
		want api.Errno
	}{
		{"", readInts, api.ErrShort}, {"\x80", readInts, api.ErrShort}, {"\x80\x00", readInts, api.ErrFormat},
		{"\x05", readInts, api.ErrFormat}, {"\x01\x00\x00", readInts, api.ErrFormat},
		{"\x02", readInts, api.ErrShort}, {"\x04\x02", readInts, api.ErrShort}, {"\x80\x01\x00", readInts, api.ErrShort},
		{"\x04\x80\x01", readInts, api.ErrShort}, {"\x04\x80\x80", readInts, api.ErrShort}, {"\x04\x02\x80", readInts, api.ErrShort},
		{"\x04\x80\x00", readInts, api.ErrFormat}, {"\x06\x02\x80\x00\x80", readInts, api.ErrFormat},
		{"\x02" + strings.Repeat("\x80", 10), readInts, api.ErrFormat},
		{"\xfe\xff\xff\xff\xff\xff\xff\xff\xff\x01\x00", readInts, api.ErrShort},
		{"\xff\xff\xff\xff\xff\xff\xff\xff\xff\x01\x00", readInts, api.ErrFormat},
		{"\x00", readInts, api.OK}, {"\x04\x02\x00", readInts, api.OK},
		{"", readString, api.ErrShort}, {"\x81", readString, api.ErrShort}, {"\x81\x00", readString, api.ErrFormat},
		{"\x01", readString, api.ErrFormat}, {"\x03ab", readString, api.ErrFormat},
		{"\x02", readString, api.ErrShort}, {"\x06ab", readString, api.ErrShort},
		{"\xfe\xff\xff\xff\xff\xff\xff\xff\xff\x01a", readString, api.ErrShort},
		{"\x00", readString, api.OK}, {"\x04\x80\x00", readString, api.OK}, {"\x04abc", readString, api.OK},
	} {
		r := varint.NewReader([]byte(x.b))
		if _, zero := read(r, x.kind); r.Err() != x.want || x.want != api.OK && !zero {
			t.Errorf("kind %d of %x: %v, want %v", x.kind, x.b, r.Err(), x.want)
		}
	}
}

// P2.5
func TestFirstErrorIsKept(t *testing.T) {
	const more = "\x02\x04\x02\x02\x02a"
	for _, x := range []struct {
		b    string
		kind int
		want api.Errno
	}{
		{"\x80\x00" + more, readInt, api.ErrFormat}, {"\x80", readInt, api.ErrShort},
		{"\x05" + more, readInts, api.ErrFormat}, {"\x40" + more, readInts, api.ErrShort}, {"\x04\x02\x80\x00" + more, readInts, api.ErrFormat},
		{"\x05" + more, readString, api.ErrFormat}, {"\x40" + more, readString, api.ErrShort},
	} {
		r := varint.NewReader([]byte("\x00" + x.b))
		if r.Int(); r.Err() != api.OK {
			t.Fatalf("%x: %v before a read fails", x.b, r.Err())
		}
		for _, kind := range []int{x.kind, readInt, readInts, readString} {
			if _, zero := read(r, kind); !zero || r.Err() != x.want || r.Len() != 0 {
				t.Errorf("%x, then kind %d: zero %v, %v, Len %d; want %v", x.b, kind, zero, r.Err(), r.Len(), x.want)
			}
		}
	}
}

// P2.6
func TestReadersThatWereNotMade(t *testing.T) {
	made := varint.NewReader([]byte{2, 4, 2, 0})
	copied := *made
	for i, r := range []*varint.Reader{nil, {}, new(varint.Reader), &copied} {
		for _, kind := range []int{readInt, readInts, readString} {
			if _, zero := read(r, kind); !zero || r.Len() != 0 || r.Err() != api.ErrNil {
				t.Errorf("reader %d, kind %d: zero %v, Len %d, %v", i, kind, zero, r.Len(), r.Err())
			}
		}
	}
	if made.Len() != 4 || made.Int() != 1 || made.Err() != api.OK {
		t.Error("a copy changed the reader")
	}
	if r := varint.NewReader(nil); r.Err() != api.OK || r.Len() != 0 {
		t.Error("a reader of no bytes is not valid")
	}
}

// P2.7
func TestRoundTrip(t *testing.T) {
	for kind, all := range encodings() {
		for _, b := range all {
			r := varint.NewReader(append(slices.Clone(b), 0x80))
			got, _ := read(r, kind)
			if !bytes.Equal(got, b) || r.Err() != api.OK || r.Len() != 1 {
				t.Errorf("kind %d, %x: read as %x, %v, Len %d", kind, b, got, r.Err(), r.Len())
			}
		}
	}
	for _, n := range ints() {
		if got := varint.NewReader(varint.AppendInt(nil, n)).Int(); got != n {
			t.Errorf("%d is read as %d", n, got)
		}
	}
	for _, l := range lists() {
		if got := varint.NewReader(varint.AppendInts(nil, l)).Ints(); !slices.Equal(got, l) {
			t.Errorf("%d is read as %d", l, got)
		}
	}
	for _, s := range texts() {
		if got := varint.NewReader(varint.AppendString(nil, s)).String(); got != s {
			t.Errorf("%q is read as %q", s, got)
		}
	}
}

// P2.8: whatever is read from any short bytes has no other encoding.
func TestCanonicalForm(t *testing.T) {
	for x := range 1 << 16 {
		for _, tail := range []string{"", "\x00", "\x01", "\x80", "\x80\x00", "\x80\x80\x01", strings.Repeat("\x80", 7) + "\x01", strings.Repeat("\x80", 7) + "\x03"} {
			b := append([]byte{byte(x >> 8), byte(x)}, tail...)
			for _, kind := range []int{readInt, readInts, readString} {
				r := varint.NewReader(b)
				got, _ := read(r, kind)
				if r.Err() == api.OK && !bytes.Equal(got, b[:len(b)-r.Len()]) {
					t.Fatalf("kind %d of %x: Len %d, but the encoding is %x", kind, b, r.Len(), got)
				}
			}
		}
	}
}

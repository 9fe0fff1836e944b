package varint

import (
	"burnish/api"
)

// Reader decodes values from a byte slice. Only what NewReader returned is a
// valid Reader: nil, a zero Reader and a copy are not.
type Reader struct {
	cursor
	self *Reader // the Reader that NewReader returned
}

// NewReader returns a reader at the start of a copy of b.
func NewReader(b []byte) *Reader {
	r := &Reader{cursor: cursor{rest: grown(b, 0)}}
	r.self = r
	return r
}

func (r *Reader) valid() bool {
	return r != nil && r.self == r
}

// Int reads an integer. It returns 0 if that fails.
func (r *Reader) Int() int {
	if !r.valid() {
		return 0
	}
	n, _ := r.readInt()
	return n
}

// Ints reads a list of integers. It returns nil if that fails.
func (r *Reader) Ints() []int {
	if !r.valid() {
		return nil
	}
	n, ok := r.readLength()
	if !ok {
		return nil
	}
	return readList(n, r.readInt)
}

// readList reads n elements, up to the first one that fails.
func readList(n int, read func() (int, bool)) []int {
	l := make([]int, 0, n)
	for range n {
		x, ok := read()
		if !ok {
			return nil
		}
		l = append(l, x)
	}
	return l
}

// String reads a string. It returns "" if that fails.
func (r *Reader) String() string {
	if !r.valid() {
		return ""
	}
	n, ok := r.readLength()
	if !ok {
		return ""
	}
	return string(r.take(n))
}

// Err returns the error of the first read that failed.
func (r *Reader) Err() api.Errno {
	if !r.valid() {
		return api.ErrNil
	}
	return r.err
}

// Len returns the number of bytes that have not been read, and 0 after an error.
func (r *Reader) Len() int {
	if !r.valid() {
		return 0
	}
	return len(r.rest)
}

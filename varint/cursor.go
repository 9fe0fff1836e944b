package varint

import (
	"burnish/api"
)

const (
	groupBits   = 7
	moreFollows = 1 << groupBits // added to every byte but the last
	maxGroups   = 10             // of 7 bits in 64 bits
	topGroup    = 1              // all that is left for the tenth group
)

// A cursor holds the bytes that have not been read, and the first error.
type cursor struct {
	rest []byte
	err  api.Errno
}

// fail keeps err and leaves nothing to read.
func (c *cursor) fail(err api.Errno) {
	c.rest, c.err = nil, err
}

// take advances behind the next n bytes, which must be there, and returns them.
func (c *cursor) take(n int) []byte {
	b := c.rest[:n]
	c.rest = c.rest[n:]
	return b
}

// readInt reads an integer, or fails.
func (c *cursor) readInt() (int, bool) {
	if c.err != api.OK {
		return 0, false
	}
	size, err := encodedSize(c.rest)
	if err != api.OK {
		c.fail(err)
		return 0, false
	}
	z := uint64(0)
	for i, b := range c.take(size) {
		z |= uint64(b%moreFollows) << (groupBits * i)
	}
	return unzigzag(z), true
}

// readLength reads the length of a list or string, or fails. Every element
// takes at least one byte, so a length beyond the rest cannot be right.
func (c *cursor) readLength() (int, bool) {
	n, ok := c.readInt()
	if !ok {
		return 0, false
	}
	if n < 0 {
		c.fail(api.ErrFormat)
		return 0, false
	}
	if n > len(c.rest) {
		c.fail(api.ErrShort)
		return 0, false
	}
	return n, true
}

// encodedSize returns the number of bytes of the integer at the start of b.
func encodedSize(b []byte) (int, api.Errno) {
	for i, x := range b[:min(len(b), maxGroups)] {
		if x >= moreFollows {
			continue
		}
		if i > 0 && x == 0 || i == maxGroups-1 && x != topGroup {
			return 0, api.ErrFormat
		}
		return i + 1, api.OK
	}
	if len(b) >= maxGroups {
		return 0, api.ErrFormat
	}
	return 0, api.ErrShort
}

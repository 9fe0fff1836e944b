// Package varint is layer 2: canonical binary encoding of integers, lists and strings. See shared/doc/02-varint.md.
package varint

// AppendInt returns a new slice: b, followed by the encoding of n.
func AppendInt(b []byte, n int) []byte {
	return putInt(grown(b, maxGroups), n)
}

// AppendInts returns a new slice: b, followed by the encoding of l.
func AppendInts(b []byte, l []int) []byte {
	out := putInt(grown(b, maxGroups+len(l)), len(l))
	for _, n := range l {
		out = putInt(out, n)
	}
	return out
}

// AppendString returns a new slice: b, followed by the encoding of s.
func AppendString(b []byte, s string) []byte {
	return append(putInt(grown(b, maxGroups+len(s)), len(s)), s...)
}

// grown returns a copy of b with room for more bytes. The exported functions
// write to such copies only: spare capacity of b may be in use by its owner.
func grown(b []byte, more int) []byte {
	return append(make([]byte, 0, len(b)+more), b...)
}

// putInt appends the encoding of n in place.
func putInt(b []byte, n int) []byte {
	z := zigzag(n)
	for z >= moreFollows {
		b = append(b, byte(z)|moreFollows)
		z >>= groupBits
	}
	return append(b, byte(z))
}

// zigzag returns 2n for n >= 0, and -2n - 1 for n < 0.
func zigzag(n int) uint64 {
	if n < 0 {
		return ^(uint64(n) << 1)
	}
	return uint64(n) << 1
}

// unzigzag is the inverse of zigzag.
func unzigzag(z uint64) int {
	if z&1 == 1 {
		return int(^(z >> 1))
	}
	return int(z >> 1)
}

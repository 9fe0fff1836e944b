package lexer

import (
	"burnish/api"
)

const (
	maxInt    = 1<<63 - 1
	maxDigits = 19 // of an int64; so many digits never exceed 64 bits
)

// IsIdent reports whether s is an identifier of at most MaxName bytes, and nothing besides.
func IsIdent(s string) bool {
	return s != "" && len(s) <= api.MaxName && identLength(s) == len(s)
}

// identLength returns the number of bytes of the identifier that s starts with, or 0.
func identLength(s string) int {
	for i, r := range s {
		if !startsIdent(r) && (i == 0 || !isDigit(r)) {
			return i
		}
	}
	return len(s)
}

func startsIdent(r rune) bool {
	return 'A' <= r && r <= 'Z' || 'a' <= r && r <= 'z' || r == '_'
}

func isDigit(r rune) bool {
	return '0' <= r && r <= '9'
}

// integerLength returns the number of bytes of the integer that s starts with, or 0.
func integerLength(s string) int {
	digits, negative := cutMinus(s)
	n := digitsLength(digits)
	if n > 0 && negative {
		n++
	}
	return n
}

// digitsLength returns the number of digits that s starts with.
func digitsLength(s string) int {
	for i, r := range s {
		if !isDigit(r) {
			return i
		}
	}
	return len(s)
}

// cutMinus returns s without the minus sign that it may start with, and whether it does.
func cutMinus(s string) (rest string, negative bool) {
	if s != "" && s[0] == '-' {
		return s[1:], true
	}
	return s, false
}

// isCanonical reports whether an integer has no superfluous leading zero and is not -0.
func isCanonical(integer string) bool {
	digits, _ := cutMinus(integer)
	return digits[0] != '0' || integer == "0"
}

// FormatInt returns the decimal representation of n.
func FormatInt(n int64) string {
	var text [1 + maxDigits]byte
	start := len(text)
	size := uint64(n)
	if n < 0 {
		size = -size
	}
	for ; size > 0 || start == len(text); size /= 10 {
		start--
		text[start] = byte('0' + size%10)
	}
	if n < 0 {
		start--
		text[start] = '-'
	}
	return string(text[start:])
}

// ParseInt returns the integer that FormatInt represents by s, or 0 and false.
func ParseInt(s string) (int64, bool) {
	length := integerLength(s)
	if length == 0 || length < len(s) || !isCanonical(s) {
		return 0, false
	}
	digits, negative := cutMinus(s)
	limit := uint64(maxInt)
	if negative {
		limit++
	}
	size, ok := parseDigits(digits)
	switch {
	case !ok || size > limit:
		return 0, false
	case negative:
		return int64(-size), true
	}
	return int64(size), true
}

// parseDigits returns the number that the digits represent, unless there are more than an int64 can have.
func parseDigits(digits string) (n uint64, ok bool) {
	if len(digits) > maxDigits {
		return 0, false
	}
	for _, r := range digits {
		n = 10*n + uint64(r-'0')
	}
	return n, true
}

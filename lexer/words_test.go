package lexer_test

import (
	"math"
	"regexp"
	"strconv"
	"strings"
	"testing"

	"burnish/api"
	"burnish/lexer"
)

// decimal returns the number that s represents, by Go's library, if that represents it so too.
func decimal(s string) (int64, bool) {
	n, err := strconv.ParseInt(s, 10, 64)
	if err != nil || strconv.FormatInt(n, 10) != s {
		return 0, false
	}
	return n, true
}

// numbers returns integers of all sizes, and those near the powers of 2 and 10.
func numbers() []int64 {
	var all []int64
	power := int64(1)
	for i := range 64 {
		for d := int64(-2); d <= 2; d++ {
			all = append(all, 1<<i+d, -(1<<i)+d, power+d, -power+d)
		}
		power *= 10
	}
	return append(all, math.MaxInt64, math.MinInt64)
}

// P13.2, P13.4
func TestFormatInt(t *testing.T) {
	for _, n := range numbers() {
		s := lexer.FormatInt(n)
		if s != strconv.FormatInt(n, 10) {
			t.Errorf("FormatInt(%d) = %q", n, s)
		}
		if again, ok := lexer.ParseInt(s); again != n || !ok {
			t.Errorf("ParseInt(%q) = %d, %v", s, again, ok)
		}
	}
}

func expectParse(t *testing.T, s string) {
	t.Helper()
	want, wantOK := decimal(s)
	if n, ok := lexer.ParseInt(s); n != want || ok != wantOK {
		t.Errorf("ParseInt(%q) = %d, %v, want %d, %v", s, n, ok, want, wantOK)
	}
}

// P13.2
func TestParseInt(t *testing.T) {
	forTexts(6, "-+ 0129a", func(s string) { expectParse(t, s) })
	for _, s := range []string{
		"9223372036854775807", "9223372036854775808", "-9223372036854775808", "-9223372036854775809",
		"9223372036854775810", "10000000000000000000", "18446744073709551615", "18446744073709551616", "18446744073709551617",
		"-18446744073709551615", "-18446744073709551616", "36893488147419103232", "09223372036854775807", "-09223372036854775808",
		"9223372036854775807 ", " 1", "1\n", "1_0", "0x1", "1e3", "1.0", "\xff", "1\xff", "١", "1\x00", "−1", strings.Repeat("9", 100000), "-" + strings.Repeat("0", 50),
	} {
		expectParse(t, s)
	}
	for _, n := range numbers() {
		s := strconv.FormatInt(n, 10)
		for _, changed := range []string{s + "0", "0" + s, "-" + s, s + "a", s[1:], s[:len(s)-1]} {
			expectParse(t, changed)
		}
	}
}

// P13.2
func TestIsIdent(t *testing.T) {
	form := regexp.MustCompile(`^[A-Za-z_][A-Za-z0-9_]*$`)
	for i := range 256 {
		for j := range 256 {
			for _, s := range []string{string([]byte{byte(i)}), string([]byte{byte(i), byte(j)}), string([]byte{'a', byte(i), byte(j)})} {
				want := form.MatchString(s) && s[len(s)-1] != '\n'
				if got := lexer.IsIdent(s); got != want {
					t.Fatalf("IsIdent(%q) = %v", s, got)
				}
			}
		}
	}
	longest := "Name_" + strings.Repeat("9", api.MaxName-5)
	for s, want := range map[string]bool{
		"": false, longest: true, longest + "9": false, strings.Repeat("a", 1000000): false, "a b": false, " a": false, "a ": false, "a\n": false,
		"a=": false, "ä": false, "aä": false, "é": false, "a\u0301": false, "ａ": false, "Ω": false, "a٣": false, "a\xff": false, "a-1": false, "1a": false,
	} {
		if got := lexer.IsIdent(s); got != want {
			t.Errorf("IsIdent(%.40q) = %v", s, got)
		}
	}
}

// P13.2: IsIdent accepts what Scan takes for an identifier that is not too long.
func TestIsIdentAgreesWithScan(t *testing.T) {
	forTexts(4, "zZ_09 \n-(\xc3\xa4", func(s string) {
		tokens, _, err := lexer.Scan(s)
		alone := err == api.OK && len(tokens) == 1 && tokens[0].Kind == lexer.Ident && tokens[0].Text == s
		if lexer.IsIdent(s) != alone {
			t.Errorf("IsIdent(%q) = %v, but Scan returns %v, %v", s, !alone, tokens, err)
		}
	})
}

package lexer_test

import (
	"math"
	"regexp"
	"slices"
	"strings"
	"testing"
	"unsafe"

	"burnish/api"
	"burnish/lexer"
)

func ident(offset int, text string) lexer.Token {
	return lexer.Token{Kind: lexer.Ident, Offset: offset, Text: text}
}

func integer(offset int, n int64) lexer.Token {
	return lexer.Token{Kind: lexer.Integer, Offset: offset, Int: n}
}

func punct(offset int, text string) lexer.Token {
	return lexer.Token{Kind: lexer.Punct, Offset: offset, Text: text}
}

func expectTokens(t *testing.T, s string, want ...lexer.Token) {
	t.Helper()
	if tokens, offset, err := lexer.Scan(s); !slices.Equal(tokens, want) || offset != 0 || err != api.OK {
		t.Errorf("Scan(%.60q) = %v, %d, %v, want %v", s, tokens, offset, err, want)
	}
}

func expectError(t *testing.T, s string, wantOffset int, want api.Errno) {
	t.Helper()
	if tokens, offset, err := lexer.Scan(s); tokens != nil || offset != wantOffset || err != want {
		t.Errorf("Scan(%.60q) = %d tokens, %d, %v, want %d, %v", s, len(tokens), offset, err, wantOffset, want)
	}
}

// The examples
func TestExamples(t *testing.T) {
	expectTokens(t, "r1 = add r0 -5", ident(0, "r1"), punct(3, "="), ident(5, "add"), ident(9, "r0"), integer(12, -5))
	expectError(t, "a 012", 2, api.ErrFormat)
	expectError(t, "a ;", 2, api.ErrSyntax)
	expectError(t, "12a", 0, api.ErrFormat)
}

// P13.1
func TestTokens(t *testing.T) {
	expectTokens(t, "")
	expectTokens(t, " \n\n  ")
	expectTokens(t, "\n a\n\nb ", ident(2, "a"), ident(5, "b"))
	expectTokens(t, "_", ident(0, "_"))
	expectTokens(t, "_9aZ_", ident(0, "_9aZ_"))
	expectTokens(t, "azAZ09", ident(0, "azAZ09"))
	expectTokens(t, "0", integer(0, 0))
	expectTokens(t, "907", integer(0, 907))
	expectTokens(t, "()=", punct(0, "("), punct(1, ")"), punct(2, "="))
	expectTokens(t, "a(b=-1)c", ident(0, "a"), punct(1, "("), ident(2, "b"), punct(3, "="), integer(4, -1), punct(6, ")"), ident(7, "c"))
	expectTokens(t, "1-2", integer(0, 1), integer(1, -2))
	expectTokens(t, "a-1", ident(0, "a"), integer(1, -1))
	expectTokens(t, "9223372036854775807 -9223372036854775808", integer(0, math.MaxInt64), integer(20, math.MinInt64))
}

// P13.1: the bytes that start tokens, and those that separate them
func TestBytes(t *testing.T) {
	const letters = "ABCDEFGHIJKLMNOPQRSTUVWXYZabcdefghijklmnopqrstuvwxyz_"
	const digits = "0123456789"
	for i := range 256 {
		c := string([]byte{byte(i)})
		switch {
		case strings.Contains(letters, c):
			expectTokens(t, c, ident(0, c))
			expectTokens(t, "x"+c, ident(0, "x"+c))
		case strings.Contains(digits, c):
			expectTokens(t, c, integer(0, int64(i-'0')))
			expectTokens(t, "x"+c, ident(0, "x"+c))
			expectTokens(t, "7"+c, integer(0, int64(70+i-'0')))
		case strings.Contains("()=", c):
			expectTokens(t, "x"+c+"7"+c, ident(0, "x"), punct(1, c), integer(2, 7), punct(3, c))
		case c == " " || c == "\n":
			expectTokens(t, "x"+c+"7"+c, ident(0, "x"), integer(2, 7))
		default:
			expectError(t, c, 0, api.ErrSyntax)
			expectError(t, "x"+c, 1, api.ErrSyntax)
			expectError(t, "7"+c, 1, api.ErrSyntax)
			expectError(t, "("+c, 1, api.ErrSyntax)
		}
	}
}

// P13.1: ErrSyntax
func TestMinusSigns(t *testing.T) {
	expectError(t, "-", 0, api.ErrSyntax)
	expectError(t, "- 1", 0, api.ErrSyntax)
	expectError(t, " --1", 1, api.ErrSyntax)
	expectError(t, "-a", 0, api.ErrSyntax)
	expectError(t, "-(", 0, api.ErrSyntax)
	expectError(t, "5-", 1, api.ErrSyntax)
	expectError(t, "a1-\n", 2, api.ErrSyntax)
}

// P13.1: ErrName
func TestLongNames(t *testing.T) {
	longest := strings.Repeat("n", api.MaxName)
	expectTokens(t, longest+" "+longest, ident(0, longest), ident(25, longest))
	expectError(t, longest+"n", 0, api.ErrName)
	expectError(t, "( "+longest+"0", 2, api.ErrName)
	expectError(t, longest+"_;", 0, api.ErrName)
	expectTokens(t, "_"+longest[:20]+"123(", ident(0, "_"+longest[:20]+"123"), punct(24, "("))
	expectError(t, strings.Repeat("a", api.MaxText), 0, api.ErrName)
}

// P13.1: ErrFormat, and ErrRange after it
func TestIntegers(t *testing.T) {
	for _, s := range []string{
		"00", "01", "012", "-0", "-00", "-01", "12a", "12_", "0a", "0_", "-5x", "-0x", "7A1",
		"09223372036854775808", "-00000000000000000000000", "9223372036854775808a", "-99999999999999999999999_",
	} {
		expectError(t, s, 0, api.ErrFormat)
		expectError(t, "a =\n"+s+" ;", 4, api.ErrFormat)
	}
	for _, s := range []string{
		"9223372036854775808", "-9223372036854775809", "9999999999999999999", "-9999999999999999999",
		"10000000000000000000", "18446744073709551615", "18446744073709551616", "-18446744073709551617",
		"100000000000000000000000000000000000000000", "1" + strings.Repeat("0", 5000),
	} {
		expectError(t, s, 0, api.ErrRange)
		expectError(t, "a =\n"+s+"(;", 4, api.ErrRange)
	}
}

// P13.1: ErrLong
func TestLongTexts(t *testing.T) {
	expectTokens(t, strings.Repeat(" ", api.MaxText))
	expectTokens(t, strings.Repeat("\n", api.MaxText-1)+"a", ident(api.MaxText-1, "a"))
	expectError(t, strings.Repeat(";", api.MaxText), 0, api.ErrSyntax)
	for _, c := range []string{" ", "a", ";", "(", "0"} {
		expectError(t, strings.Repeat(c, api.MaxText+1), 0, api.ErrLong)
	}
	expectError(t, strings.Repeat(" ", 1<<20), 0, api.ErrLong)
}

// P13.1: ErrLimit
func TestManyTokens(t *testing.T) {
	most := strings.Repeat("a ", api.MaxTokens)
	for _, s := range []string{most, most + "  \n", strings.Repeat("(", api.MaxTokens)} {
		if tokens, offset, err := lexer.Scan(s); len(tokens) != api.MaxTokens || offset != 0 || err != api.OK {
			t.Errorf("MaxTokens tokens: %d, %d, %v", len(tokens), offset, err)
		}
	}
	for _, last := range []string{"a", "7", "=", ";", "-", "012", "99999999999999999999", strings.Repeat("a", 25)} {
		expectError(t, most+"\n\n"+last, len(most)+2, api.ErrLimit)
	}
	expectError(t, strings.Repeat("=", api.MaxText), api.MaxTokens, api.ErrLimit)
	expectError(t, "; "+most, 0, api.ErrSyntax)
	expectError(t, "01 "+most, 0, api.ErrFormat)
}

// P13.1: it is the first token with an error that counts
func TestFirstError(t *testing.T) {
	bad := []struct {
		text string
		err  api.Errno
	}{{";", api.ErrSyntax}, {"-", api.ErrSyntax}, {strings.Repeat("b", 30), api.ErrName}, {"00", api.ErrFormat}, {"1_", api.ErrFormat}, {"99999999999999999999", api.ErrRange}}
	for _, first := range bad {
		for _, second := range bad {
			expectError(t, "x\n"+first.text+" "+second.text, 2, first.err)
		}
	}
}

var tokenForm = regexp.MustCompile(`^(?:([A-Za-z_][A-Za-z0-9_]*)|(-?[0-9]+)|[()=])`)

// expected returns what Scan should return for a short text, by another way.
func expected(s string) ([]lexer.Token, int, api.Errno) {
	var tokens []lexer.Token
	for i := 0; i < len(s); {
		if s[i] == ' ' || s[i] == '\n' {
			i++
			continue
		}
		match := tokenForm.FindStringSubmatch(s[i:])
		if match == nil {
			return nil, i, api.ErrSyntax
		}
		switch {
		case match[1] != "":
			tokens = append(tokens, ident(i, match[1]))
		case match[2] != "":
			n, ok := decimal(match[2])
			if rest := s[i+len(match[2]):]; !ok || rest != "" && regexp.MustCompile(`^[A-Za-z_]`).MatchString(rest) {
				return nil, i, api.ErrFormat
			}
			tokens = append(tokens, integer(i, n))
		default:
			tokens = append(tokens, punct(i, match[0]))
		}
		i += len(match[0])
	}
	return tokens, 0, api.OK
}

// forTexts calls f with all texts of at most n characters of the alphabet.
func forTexts(n int, alphabet string, f func(s string)) {
	var extend func(s string, room int)
	extend = func(s string, room int) {
		f(s)
		for i := 0; i < len(alphabet) && room > 0; i++ {
			extend(s+alphabet[i:i+1], room-1)
		}
	}
	extend("", n)
}

// P13.1, P13.4, for all short texts
func TestShortTexts(t *testing.T) {
	forTexts(5, " \nx_01-(;", func(s string) {
		want, wantOffset, wantErr := expected(s)
		tokens, offset, err := lexer.Scan(s)
		if !slices.Equal(tokens, want) || offset != wantOffset || err != wantErr {
			t.Fatalf("Scan(%q) = %v, %d, %v, want %v, %d, %v", s, tokens, offset, err, want, wantOffset, wantErr)
		}
		if err == api.OK {
			expectRoundTrip(t, tokens)
		}
	})
}

// expectRoundTrip checks P13.4 for the tokens of a text.
func expectRoundTrip(t *testing.T, tokens []lexer.Token) {
	t.Helper()
	joined := lexer.Join(tokens)
	again, offset, err := lexer.Scan(joined)
	if len(again) != len(tokens) || offset != 0 || err != api.OK {
		t.Fatalf("Scan(%q) = %v, %d, %v, want the tokens %v", joined, again, offset, err, tokens)
	}
	for i, token := range again {
		if i > 0 && (token.Offset <= again[i-1].Offset || tokens[i].Offset <= tokens[i-1].Offset) {
			t.Fatalf("the offsets of %v or of %v do not increase", tokens, again)
		}
		if token.Offset = tokens[i].Offset; token != tokens[i] {
			t.Fatalf("Scan(%q) returns %v, want %v", joined, token, tokens[i])
		}
	}
}

// P13.4: long texts, and one whose tokens have a text that is too long
func TestLongRoundTrips(t *testing.T) {
	for _, s := range []string{strings.Repeat("a\n", api.MaxTokens), strings.Repeat("-7=", api.MaxTokens/2), strings.Repeat("x1 \n-9223372036854775808=", 2000)} {
		tokens, _, err := lexer.Scan(s)
		if err != api.OK {
			t.Fatalf("Scan: %v", err)
		}
		expectRoundTrip(t, tokens)
	}
	tokens, _, err := lexer.Scan(strings.Repeat("abcde(", api.MaxTokens/2))
	if len(tokens) != api.MaxTokens || err != api.OK {
		t.Errorf("Scan of a text of MaxText bytes: %d tokens, %v", len(tokens), err)
	}
	expectError(t, lexer.Join(tokens), 0, api.ErrLong)
}

// DOC.md, Rule 4: the tokens keep nothing of the text that was scanned.
func TestTokensShareNoMemoryWithTheText(t *testing.T) {
	s := "name ( = )" // what starts it is a token of more than a byte, which are stored once for all
	tokens, _, _ := lexer.Scan(s)
	if len(tokens) != 4 || unsafe.StringData(tokens[0].Text) == unsafe.StringData(s) {
		t.Errorf("%v: the first is a part of the text", tokens)
	}
}

// P13.3
func TestJoin(t *testing.T) {
	for _, c := range []struct {
		tokens []lexer.Token
		want   string
	}{
		{nil, ""},
		{[]lexer.Token{ident(7, "a")}, "a"},
		{[]lexer.Token{ident(9, "r1"), punct(9, "="), ident(0, "add"), integer(-3, -5), punct(1, ")")}, "r1 = add -5 )"},
		{[]lexer.Token{integer(0, math.MinInt64), integer(0, 0), integer(0, math.MaxInt64)}, "-9223372036854775808 0 9223372036854775807"},
		{[]lexer.Token{{Kind: lexer.Ident, Int: 5, Text: "a"}, {Kind: lexer.Integer, Int: 5, Text: "a"}, {Kind: lexer.Punct, Int: 5, Text: "("}}, "a 5 ("},
		{[]lexer.Token{{Kind: lexer.Ident, Text: "any text;"}, {Kind: lexer.Punct, Text: "\xff"}}, "any text; \xff"},
		{[]lexer.Token{{Kind: lexer.Ident}, {Kind: lexer.Punct}, ident(0, "b"), {Kind: lexer.Ident}}, "  b "},
		{[]lexer.Token{{Text: "a"}, {Kind: 4, Text: "a"}, {Kind: -1, Int: 4}}, ""},
		{[]lexer.Token{{Text: "x"}, ident(0, "a"), {Kind: 4, Text: "x"}, {Kind: math.MinInt}, ident(0, "b"), {Kind: math.MaxInt, Text: "x"}}, "a b"},
	} {
		before := slices.Clone(c.tokens)
		if got := lexer.Join(c.tokens); got != c.want || !slices.Equal(c.tokens, before) {
			t.Errorf("Join(%v) = %q, want %q", before, got, c.want)
		}
	}
}

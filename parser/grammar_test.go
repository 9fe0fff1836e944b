package parser_test

import (
	"math/rand"
	"strings"
	"sync"
	"testing"

	"burnish/api"
	"burnish/lexer"
	"burnish/opcode"
	"burnish/parser"
)

// A language is a set of sequences of tokens. It has at least one; nil stands for none.
// What the parser says of a text is compared with what the languages of the grammar say.
type language interface {
	hasEmpty() bool
	after(lexer.Token) language // what may follow the token
}

type (
	nothing  struct{}               // the empty sequence alone
	one      func(lexer.Token) bool // one token
	sequence struct{ first, rest language }
	either   struct{ a, b language }
	repeated struct{ each language }
	later    func() language // so that a language may contain itself
)

func (nothing) hasEmpty() bool    { return true }
func (one) hasEmpty() bool        { return false }
func (l sequence) hasEmpty() bool { return l.first.hasEmpty() && l.rest.hasEmpty() }
func (l either) hasEmpty() bool   { return l.a.hasEmpty() || l.b.hasEmpty() }
func (repeated) hasEmpty() bool   { return true }
func (l later) hasEmpty() bool    { return l().hasEmpty() }

func (nothing) after(lexer.Token) language { return nil }

func (l one) after(t lexer.Token) language {
	if l(t) {
		return nothing{}
	}
	return nil
}

func (l sequence) after(t lexer.Token) language {
	next := then(l.first.after(t), l.rest)
	if l.first.hasEmpty() {
		return or(next, l.rest.after(t))
	}
	return next
}

func (l either) after(t lexer.Token) language   { return or(l.a.after(t), l.b.after(t)) }
func (l repeated) after(t lexer.Token) language { return then(l.each.after(t), l) }
func (l later) after(t lexer.Token) language    { return l().after(t) }

func then(first, rest language) language {
	if first == nil || first == (nothing{}) {
		if first == nil {
			return nil
		}
		return rest
	}
	return sequence{first, rest}
}

func or(a, b language) language {
	if a == nil {
		return b
	}
	if b == nil {
		return a
	}
	return either{a, b}
}

// seq returns the sequences of parts, where a string stands for the tokens that it spells.
func seq(parts ...any) language {
	var l language = nothing{}
	for i := len(parts) - 1; i >= 0; i-- {
		l = sequence{part(parts[i]), l}
	}
	return l
}

func part(p any) language {
	text, ok := p.(string)
	if !ok {
		return p.(language)
	}
	return one(func(t lexer.Token) bool { return t.Kind != lexer.Integer && t.Text == text })
}

func optional(parts ...any) language { return either{seq(parts...), nothing{}} }
func many(parts ...any) language     { return repeated{seq(parts...)} }

// any of several alternatives
func choice(alternatives ...language) language {
	l := alternatives[0]
	for _, other := range alternatives[1:] {
		l = either{l, other}
	}
	return l
}

// The words of the grammar.
var (
	anyName  = one(func(t lexer.Token) bool { return t.Kind == lexer.Ident })
	anyInt   = one(func(t lexer.Token) bool { return t.Kind == lexer.Integer })
	anyType  = one(func(t lexer.Token) bool { _, ok := opcode.TypeByName(t.Text); return t.Kind == lexer.Ident && ok })
	intsList = seq("(", many(anyInt), ")")
	anEdge   = seq(anyInt, intsList)

	anInstruction = instructionLanguage()
	aTerminator   = terminatorLanguage()
	aModule       = moduleLanguage()
)

func exactInt(n int) language {
	return one(func(t lexer.Token) bool { return t.Kind == lexer.Integer && t.Int == int64(n) })
}

// operation returns the language of the names of the operations that a condition holds for.
func operation(holds func(op int) bool) language {
	return one(func(t lexer.Token) bool {
		op, ok := opcode.Lookup(t.Text)
		return t.Kind == lexer.Ident && ok && holds(op)
	})
}

func operations(wanted ...int) func(int) bool {
	return func(op int) bool {
		for _, w := range wanted {
			if op == w {
				return true
			}
		}
		return false
	}
}

func instructionLanguage() language {
	rest := func(holds func(int) bool, operand ...any) language {
		return seq(append([]any{optional(anyInt, "="), operation(holds), optional("nowrap"), optional(anyType), intsList}, operand...)...)
	}
	withInt := operations(api.OpConst, api.OpLane)
	withName := operations(api.OpGlobal, api.OpCall)
	withType := operations(api.OpAlloca)
	others := func(op int) bool { return !withInt(op) && !withName(op) && !withType(op) }
	return choice(rest(withInt, anyInt), rest(withName, anyName), rest(withType, anyType, anyInt), rest(others))
}

func terminatorLanguage() language {
	return choice(seq("jump", anEdge), seq("branch", anyInt, anEdge, anEdge), seq("switch", anyInt, intsList, anEdge, many(anEdge)),
		seq("return", intsList), seq("trap", anyInt), seq("tailcall", anyName, intsList))
}

// blocksFrom returns the language of the blocks from number n on.
func blocksFrom(n int) language {
	return optional("block", exactInt(n), intsList, many(anInstruction), aTerminator, later(sync.OnceValue(func() language { return blocksFrom(n + 1) })))
}

func moduleLanguage() language {
	global := seq("global", anyName, anyType, anyInt, optional("readonly"), optional("=", anyInt, many(anyInt)))
	function := seq("func", anyName, intsList, anyType, "regs", many(anyType), blocksFrom(0))
	return seq(many(global), many(function))
}

// syntaxError returns what step 2 of P16.1 says of a text.
func syntaxError(s string, tokens []lexer.Token) (offset int, err api.Errno) {
	l := aModule
	for _, t := range tokens {
		if l = l.after(t); l == nil {
			return t.Offset, api.ErrFormat
		}
	}
	if !l.hasEmpty() {
		return len(s), api.ErrShort
	}
	return 0, api.OK
}

// expectSyntax checks what the parser says of a text against the grammar, and reports whether the text is in the grammar.
func expectSyntax(t *testing.T, s string) bool {
	t.Helper()
	tokens, _, err := lexer.Scan(s)
	if err != api.OK {
		t.Fatalf("%q: %v", s, err)
	}
	offset, err := syntaxError(s, tokens)
	m, gotOffset, gotErr := parser.Module(s)
	if err != api.OK && (gotOffset != offset || gotErr != err) {
		t.Errorf("%d, %v, want %d, %v:\n%s", gotOffset, gotErr, offset, err, s)
	}
	if gotErr != api.OK && (m.Globals != nil || m.Funcs != nil) {
		t.Errorf("a module and %v", gotErr)
	}
	return err == api.OK
}

// spare returns tokens that may be put anywhere.
func spare() []lexer.Token {
	tokens, _, _ := lexer.Scan("global func regs block readonly nowrap = ( ) 0 1 2 -1 void i32 const add alloca call lane " +
		"jump branch switch return trap tailcall x nop")
	return tokens
}

// spaced returns the text of tokens with one space or line feed between each two, and sometimes none.
func spaced(tokens []lexer.Token, blank func() string) string {
	var s strings.Builder
	for _, t := range tokens {
		s.WriteString(lexer.Join([]lexer.Token{t}))
		s.WriteString(blank())
	}
	return s.String()
}

func space() string { return " " }

// P16.1, step 2, and P16.2: each token left out or replaced by another, and each beginning of a text
func TestGrammar(t *testing.T) {
	tokens, _, err := lexer.Scan(sampleText)
	if err != api.OK || !expectSyntax(t, sampleText) {
		t.Fatal("the sample is not in the grammar")
	}
	correct, wrong := 0, 0
	try := func(parts ...[]lexer.Token) {
		var all []lexer.Token
		for _, p := range parts {
			all = append(all, p...)
		}
		if expectSyntax(t, spaced(all, space)) {
			correct++
		} else {
			wrong++
		}
	}
	for i := range tokens {
		try(tokens[:i])
		try(tokens[:i], tokens[i+1:])
		for _, other := range spare() {
			try(tokens[:i], []lexer.Token{other}, tokens[i+1:])
			try(tokens[:i], []lexer.Token{other}, tokens[i:])
		}
	}
	if correct < 500 || wrong < 5000 {
		t.Errorf("%d texts in the grammar, %d others", correct, wrong)
	}
}

// P16.1, step 2, and P16.2: texts with several random changes
func TestGrammarAtRandom(t *testing.T) {
	r := rand.New(rand.NewSource(1))
	sampleTokens, _, _ := lexer.Scan(sampleText)
	blank := func() string { return [...]string{" ", "\n", "  ", " \n"}[r.Intn(4)] }
	for range 5000 {
		from := r.Intn(len(sampleTokens))
		if r.Intn(2) == 0 {
			from = 0
		}
		tokens := append([]lexer.Token(nil), sampleTokens[from:]...)
		for range r.Intn(4) {
			i, word := r.Intn(len(tokens)), spare()[r.Intn(len(spare()))]
			switch r.Intn(3) {
			case 0:
				tokens[i] = word
			case 1:
				tokens[i] = tokens[r.Intn(len(tokens))]
			default:
				tokens = append(append(tokens[:i], word), tokens[min(len(tokens), i+1+r.Intn(5)):]...)
			}
		}
		expectSyntax(t, spaced(tokens, blank))
	}
}

// P16.2: each operation and each type by its name, and the words that are none
func TestNamesOfOperationsAndTypes(t *testing.T) {
	for op := api.OpConst; op <= api.OpLane; op++ {
		for _, rest := range []string{"", " 5", " x", " i32 5", " i32", " i32 x"} {
			for _, before := range []string{"", "1 = ", "-1 = ", "nowrap ", "1 "} {
				expectSyntax(t, "func f ( ) void regs block 0 ( ) "+before+opcode.Name(op)+" ( )"+rest+" trap 16")
				expectSyntax(t, "func f ( ) void regs block 0 ( ) "+before+opcode.Name(op)+" nowrap void ( 1 2 3 4 5 6 7 8 9 )"+rest+" trap 16")
			}
		}
	}
	for _, word := range []string{"void", "bool", "i8", "i32", "i64", "ptr", "v2", "v4", "i16", "V4", "nowrap", "spill", "fill"} {
		expectSyntax(t, "global f "+word+" 1")
		expectSyntax(t, "func f ( ) "+word+" regs "+word+" "+word)
		expectSyntax(t, "func f ( ) void regs block 0 ( ) "+word+" ( ) trap 16")
	}
}

package parser

import (
	"burnish/api"
	"burnish/lexer"
	"burnish/opcode"
)

// A reader reads tokens one after the other. It panics with a failure at the first that cannot follow those before it.
type reader struct {
	tokens  []lexer.Token
	next    int           // the index of the token to be read
	end     int           // the length of the text
	offsets map[place]int // of the first tokens of the places that have been reached
}

// A place is a diagnostic without its code.
type place api.Diagnostic

// reach notes that the next token is the first one of a place.
func (r *reader) reach(at place) {
	r.offsets[at] = r.offset()
}

// offsetOf returns where the diagnostic's place begins: at 0, if it is no part of the module.
func (r *reader) offsetOf(d api.Diagnostic) int {
	d.Code = api.OK
	return r.offsets[place(d)]
}

func (r *reader) atEnd() bool {
	return r.next == len(r.tokens)
}

// peek returns the token to be read, or a token of no kind and without a text if there is none left.
func (r *reader) peek() lexer.Token {
	if r.atEnd() {
		return lexer.Token{Offset: r.end}
	}
	return r.tokens[r.next]
}

// offset returns where the token to be read begins.
func (r *reader) offset() int {
	return r.peek().Offset
}

// need reports the token to be read unless it is a right one. If there is none left, the text ends too early.
func (r *reader) need(right bool) {
	err := api.ErrFormat
	if r.atEnd() {
		err = api.ErrShort
	}
	failIf(!right, r.offset(), err)
}

// has reports whether the token to be read spells the given word or punctuation.
func (r *reader) has(word string) bool {
	return r.peek().Text == word
}

func (r *reader) hasInteger() bool {
	return r.peek().Kind == lexer.Integer
}

func (r *reader) hasType() bool {
	_, ok := opcode.TypeByName(r.peek().Text)
	return ok
}

// skip reads the given word or punctuation if it is what comes next, and reports whether it is.
func (r *reader) skip(word string) bool {
	if !r.has(word) {
		return false
	}
	r.next++
	return true
}

// word reads the given word or punctuation.
func (r *reader) word(word string) {
	r.need(r.skip(word))
}

// reference reads an identifier and returns the index of its token.
func (r *reader) reference() int {
	r.need(r.peek().Kind == lexer.Ident)
	r.next++
	return r.next - 1
}

func (r *reader) name() string {
	return r.tokens[r.reference()].Text
}

func (r *reader) integer() int64 {
	r.need(r.hasInteger())
	n := r.peek().Int
	r.next++
	return n
}

func (r *reader) typeName() api.Type {
	t, ok := opcode.TypeByName(r.peek().Text)
	r.need(ok)
	r.next++
	return t
}

func (r *reader) operation() int {
	op, ok := opcode.Lookup(r.peek().Text)
	r.need(ok)
	r.next++
	return op
}

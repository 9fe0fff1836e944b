package printer

import (
	"slices"
	"strings"

	"burnish/api"
	"burnish/lexer"
	"burnish/opcode"
)

// A text is what has been printed of a valid module.
type text struct {
	module api.Module
	lines  strings.Builder
	tokens int
}

// line adds a line of the tokens of all parts.
func (t *text) line(parts ...[]string) {
	tokens := slices.Concat(parts...)
	t.tokens += len(tokens)
	t.lines.WriteString(strings.Join(tokens, " "))
	t.lines.WriteByte('\n')
}

func (t *text) isLong() bool {
	return t.lines.Len() > api.MaxText || t.tokens > api.MaxTokens
}

// finish returns the text and no error, unless the text is too long.
func (t *text) finish() (string, api.Diagnostic) {
	if t.isLong() {
		return "", api.Diagnostic{Code: api.ErrLong}
	}
	return t.lines.String(), api.Diagnostic{}
}

func (t *text) global(g api.Global) {
	var readOnly, init []string
	if g.ReadOnly {
		readOnly = words("readonly")
	}
	if len(g.Init) > 0 {
		init = slices.Concat(words("="), numbers(g.Init))
	}
	t.line(words("global", g.Name, opcode.TypeName(g.Elem)), number(g.Len), readOnly, init)
}

func (t *text) function(f api.Func) {
	t.line(words("func", f.Name), list(f.Params), words(opcode.TypeName(f.Result)))
	registers := words("regs")
	for _, r := range f.Regs {
		registers = append(registers, opcode.TypeName(r))
	}
	t.line(registers)
	for i, b := range f.Blocks {
		// The edges of a valid module can be far longer than any text: what is too long already may as well end here.
		if t.isLong() {
			return
		}
		t.block(i, b)
	}
}

func (t *text) block(index int, b api.Block) {
	t.line(words("block"), number(index), list(b.Params))
	for _, in := range b.Instrs {
		t.instruction(in)
	}
	t.line(terminator{b.Term, t.module}.tokens())
}

func (t *text) instruction(in api.Instr) {
	var dst, noWrap, resultType []string
	if in.Dst != -1 {
		dst = append(number(in.Dst), "=")
	}
	if in.NoWrap {
		noWrap = words("nowrap")
	}
	if in.Type != api.Void {
		resultType = words(opcode.TypeName(in.Type))
	}
	t.line(dst, words(opcode.Name(in.Op)), noWrap, resultType, list(in.Args), t.operand(in))
}

// operand returns what an instruction has behind its registers.
func (t *text) operand(in api.Instr) []string {
	switch in.Op {
	case api.OpConst, api.OpLane:
		return number(in.Imm)
	case api.OpGlobal:
		return words(t.module.Globals[in.Sym].Name)
	case api.OpCall:
		return words(t.module.Funcs[in.Sym].Name)
	case api.OpAlloca:
		return append(words(opcode.TypeName(in.Elem)), number(in.Imm)...)
	}
	return nil
}

func words(tokens ...string) []string {
	return tokens
}

func number[T int | int64](n T) []string {
	return words(lexer.FormatInt(int64(n)))
}

func numbers[T int | int64](all []T) []string {
	tokens := make([]string, 0, len(all))
	for _, n := range all {
		tokens = append(tokens, number(n)...)
	}
	return tokens
}

func list[T int | int64](all []T) []string {
	return slices.Concat(words("("), numbers(all), words(")"))
}

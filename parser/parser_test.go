package parser_test

import (
	"math/rand"
	"strconv"
	"strings"
	"testing"

	"burnish/api"
	"burnish/parser"
	"burnish/printer"
	"burnish/verify"
)

// expectError checks the error of a text, and that no module comes with it.
func expectError(t *testing.T, s string, offset int, err api.Errno) {
	t.Helper()
	m, gotOffset, gotErr := parser.Module(s)
	if gotOffset != offset || gotErr != err || m.Globals != nil || m.Funcs != nil {
		t.Errorf("%d, %v, %+v, want %d, %v: %.300q", gotOffset, gotErr, m, offset, err, s)
	}
}

// expectAt checks the error of a text, which is at the mark @ (that is left out).
func expectAt(t *testing.T, marked string, err api.Errno) {
	t.Helper()
	before, after, ok := strings.Cut(marked, "@")
	if !ok {
		t.Fatalf("no mark: %q", marked)
	}
	expectError(t, before+after, len(before), err)
}

func expectModule(t *testing.T, s string, want api.Module) {
	t.Helper()
	m, offset, err := parser.Module(s)
	if offset != 0 || err != api.OK || !verify.Equal(m, want) {
		t.Errorf("%d, %v, %+v: %.300q", offset, err, m, s)
	}
}

// P16.1: all that the format has
func TestModule(t *testing.T) {
	expectModule(t, sampleText, sample())
	text, d := printer.Module(sample())
	if text != sampleText || d.Code != api.OK {
		t.Errorf("the sample's text is %s", text)
	}
	expectModule(t, "", api.Module{})
	expectModule(t, "global g i32 1\n", api.Module{Globals: []api.Global{{Name: "g", Elem: api.I32, Len: 1}}})
}

// P16.1: names come before or after what uses them, and may be the same for a global and a function.
func TestNames(t *testing.T) {
	trap := api.Terminator{Kind: api.Trap, Cases: []int64{16}}
	call := func(sym int) api.Instr { return api.Instr{Op: api.OpCall, Dst: -1, Sym: sym} }
	m := api.Module{
		Globals: []api.Global{{Name: "b", Elem: api.I8, Len: 1}, {Name: "a", Elem: api.I8, Len: 1}},
		Funcs: []api.Func{
			{Name: "a", Regs: []api.Type{api.Ptr}, Blocks: []api.Block{{
				Instrs: []api.Instr{call(1), call(0), {Op: api.OpGlobal, Type: api.Ptr, Sym: 1}, {Op: api.OpGlobal, Type: api.Ptr}, call(2)},
				Term:   api.Terminator{Kind: api.TailCall, Sym: 2},
			}}},
			{Name: "b", Blocks: []api.Block{{Term: trap}}},
			{Name: "c", Blocks: []api.Block{{Term: api.Terminator{Kind: api.TailCall}}}},
		},
	}
	text, d := printer.Module(m)
	if d.Code != api.OK {
		t.Fatal(d)
	}
	expectModule(t, text, m)
}

// The examples of the chapter
func TestExamples(t *testing.T) {
	expectModule(t, "", api.Module{})
	expectError(t, "func", 4, api.ErrShort)
	expectError(t, "global g i32 1 =\n", 17, api.ErrShort)
	expectError(t, "global g i32 0\n", 0, api.ErrRange)
	expectError(t, "global  g i32 1\n", 7, api.ErrFormat)
}

// P16.1, step 1: the lexer's errors come first.
func TestLexicalErrors(t *testing.T) {
	expectAt(t, "func func @;", api.ErrSyntax)
	expectAt(t, "global g i32 @01", api.ErrFormat)
	expectAt(t, "global 1 @9223372036854775808", api.ErrRange)
	expectAt(t, "global @"+strings.Repeat("x", 25), api.ErrName)
	expectAt(t, ") @\tglobal", api.ErrSyntax)
	expectAt(t, "@"+strings.Repeat(" ", api.MaxText+1), api.ErrLong)
	expectAt(t, strings.Repeat("x ", api.MaxTokens)+"@x", api.ErrLimit)
}

// P16.1, step 2: the first token that cannot follow, or the length of the text
func TestSyntaxErrors(t *testing.T) {
	for _, marked := range []string{
		"@)", "@1", "@block", "global @1", "global g @u32", "global g i32 @x", "global g i32 1 @2", "global g i32 1 = @global",
		"global g i32 1 = 1 @readonly", "global g i32 1 readonly @readonly", "func f ( ) void regs @global g i32 1",
		"func f @void", "func f ( @x", "func f ( ) @regs", "func f ( ) i32 @block", "func f ( ) i32 regs i32 @1", "func f ( ) i32 regs block @1",
		"func f ( ) i32 regs block @-1", "func f ( ) i32 regs block 0 @0",
		"func f ( ) i32 regs block 0 ( ) trap 16 block @0", "func f ( ) i32 regs block 0 ( ) trap 16 block @2", "func f ( ) i32 regs block 0 ( ) trap 16 @trap 16",
		"func f ( ) i32 regs block 0 ( ) trap 16 block 1 ( ) trap 16 func g ( ) i32 regs block @2",
		"func f ( ) i32 regs block 0 ( ) @block", "func f ( ) i32 regs block 0 ( ) 1 @add", "func f ( ) i32 regs block 0 ( ) 1 = @1",
		"func f ( ) i32 regs block 0 ( ) 1 = @jump", "func f ( ) i32 regs block 0 ( ) add i32 @nowrap", "func f ( ) i32 regs block 0 ( ) add @1",
		"func f ( ) i32 regs block 0 ( ) const i32 ( ) @x", "func f ( ) i32 regs block 0 ( ) call i32 ( ) @1", "func f ( ) i32 regs block 0 ( ) alloca ptr ( ) @4",
		"func f ( ) i32 regs block 0 ( ) alloca ptr ( ) i8 @i8", "func f ( ) i32 regs block 0 ( ) load i32 ( 1 ) 2 @(", "func f ( ) i32 regs block 0 ( ) jump @(",
		"func f ( ) i32 regs block 0 ( ) jump 1 @2", "func f ( ) i32 regs block 0 ( ) jump 1 ( ) @2", "func f ( ) i32 regs block 0 ( ) branch 1 2 ( ) @block",
		"func f ( ) i32 regs block 0 ( ) branch 1 2 ( ) 3 ( ) @4", "func f ( ) i32 regs block 0 ( ) switch 1 ( ) @block", "func f ( ) i32 regs block 0 ( ) return @1",
		"func f ( ) i32 regs block 0 ( ) trap @(", "func f ( ) i32 regs block 0 ( ) tailcall @(",
	} {
		expectAt(t, marked, api.ErrFormat)
	}
	for _, s := range []string{"global", "global g", "global g i32", "global g i32 1 =", "func f (", "func f ( 1", "func f ( )", "func f ( ) void",
		"func f ( ) void regs block", "func f ( ) void regs block 0", "func f ( ) void regs block 0 ( )", "func f ( ) void regs block 0 ( ) 1",
		"func f ( ) void regs block 0 ( ) 1 =", "func f ( ) void regs block 0 ( ) add", "func f ( ) void regs block 0 ( ) add nowrap i32",
		"func f ( ) void regs block 0 ( ) add ( 1 2 )", "func f ( ) void regs block 0 ( ) lane ( 1 )", "func f ( ) void regs block 0 ( ) alloca ( ) i32",
		"func f ( ) void regs block 0 ( ) branch 1 2 ( )", "func f ( ) void regs block 0 ( ) switch 1 ( 1 )", "func f ( ) void regs block 0 ( ) trap",
		"func f ( ) void regs block 0 ( ) tailcall f",
	} {
		expectError(t, s, len(s), api.ErrShort)
		expectError(t, s+" \n", len(s)+2, api.ErrShort)
	}
}

// inFunc returns the text of a function with some registers and one block of given lines.
func inFunc(lines string) string {
	return "func f ( 0 ) void\nregs i32 bool ptr i32 v2\nblock 0 ( )\n" + lines
}

// P16.1, step 3: the first name that is none, be it of a global or a function
func TestNamesThatAreNone(t *testing.T) {
	for _, marked := range []string{
		inFunc("2 = global ptr ( ) @f\nreturn ( )\n"),
		"global g i32 1\n" + inFunc("call ( ) @g\nreturn ( )\n"),
		inFunc("tailcall @g ( 0 )\n"),
		inFunc("tailcall @g ( 0 )\n") + "func h ( ) void\nregs\nblock 0 ( )\ntailcall x ( )\n",
		inFunc("tailcall f ( 0 )\n") + "func h ( ) void\nregs\nblock 0 ( )\ntailcall @x ( )\n",
		inFunc("2 = global ptr ( ) @x\ncall ( ) y\ntailcall z ( )\n"),
		inFunc("call ( 0 ) f\ncall ( ) @y\n2 = global ptr ( ) x\ntailcall z ( )\n"),
		inFunc("call ( 0 ) f\ncall ( ) @F\ntailcall f ( )\n"),
		// What is not valid, or not the text of the module, counts less.
		"global g i32 0 global g i32 1 func f ( ) void regs void block 0 ( ) 99 = global ptr ( 7 ) g 0 = call void ( ) @h trap 0",
	} {
		expectAt(t, marked, api.ErrNotFound)
	}
}

// P16.1, steps 3 and 4: a name that occurs twice is one that the module has.
func TestNamesThatOccurTwice(t *testing.T) {
	expectAt(t, "func f ( ) void\nregs\nblock 0 ( )\ntailcall f ( )\n@func f ( ) i32\nregs i32\nblock 0 ( )\ntailcall f ( )\n", api.ErrDup)
	expectAt(t, "global g i8 1\n@global g i32 1\n", api.ErrDup)
}

// P16.1, step 4: what is not valid, with the place where it begins
func TestInvalidModules(t *testing.T) {
	many := func(n int, text string) string {
		s := ""
		for i := range n {
			s += strings.ReplaceAll(text, "#", strconv.Itoa(i))
		}
		return s
	}
	for _, c := range []struct {
		marked string
		err    api.Errno
	}{
		{"@" + many(33, "global g# i32 1\n"), api.ErrLimit},
		{"@" + many(2, "global g# i32 1\n") + many(33, "func f# ( ) void\nregs\nblock 0 ( )\nreturn ( )\n"), api.ErrLimit},
		{"global g i32 1\n@global h v2 1\n", api.ErrType},
		{"global g i32 1\n@global h void 1\n", api.ErrType},
		{"global g i32 1\n@global h i32 257\nglobal g i32 0\n", api.ErrRange},
		{"@global g i32 1 = 1 2\n", api.ErrLong},
		{"@global g ptr 1 = 1\n", api.ErrType},
		{"@global g i8 1 = 128\n", api.ErrRange},
		{"@func f ( ) void\nregs void\nblock 0 ( )\nreturn ( )\n", api.ErrType},
		{"@func f ( ) void\nregs\n", api.ErrShort},
		{inFunc("return ( )\n") + "@func g ( 0 0 ) void\nregs i8\nblock 0 ( )\nreturn ( )\n", api.ErrDup},
		{inFunc("return ( 1 )\n") + "@func g ( 1 ) void\nregs i8\nblock 0 ( )\nreturn ( )\n", api.ErrRange},
		{inFunc("return ( )\n") + "@func g ( ) void\nregs\n", api.ErrShort},
		{"func f ( ) void\nregs i8\n@block 0 ( 0 )\nreturn ( 0 )\n", api.ErrFormat},
		{inFunc("jump 1 ( 1 )\n") + "block 1 ( 1 )\nreturn ( )\n@block 2 ( 9 )\n9 = add ( )\nreturn ( 1 )\n", api.ErrRange},
		{inFunc("jump 1 ( 1 1 )\n") + "@block 1 ( 1 1 )\nreturn ( )\n", api.ErrDup},
		{inFunc("@jump 1 ( 1 )\n") + "block 1 ( 1 1 )\nreturn ( )\n", api.ErrShort},
		{inFunc("@9 = const i32 ( ) 1\nreturn ( )\n"), api.ErrRange},
		{inFunc("@const i32 ( ) 1\nreturn ( )\n"), api.ErrType},
		{inFunc("0 = const i32 ( ) 1\n@0 = const i32 ( ) 2147483648\nreturn ( 1 )\n"), api.ErrRange},
		{inFunc("0 = const i32 ( ) 1\n@add nowrap i32 ( 0 0 )\nreturn ( )\n"), api.ErrType},
		{inFunc("@4 = sub nowrap v2 ( 4 0 )\nreturn ( )\n"), api.ErrType},
		{inFunc("@2 = copy nowrap ptr ( 2 )\nreturn ( )\n"), api.ErrFormat},
		{inFunc("@2 = alloca ptr ( ) i32 0\nreturn ( )\n"), api.ErrRange},
		{inFunc("@2 = alloca ptr ( ) bool 1\nreturn ( )\n"), api.ErrType},
		{inFunc("@call ( ) f\nreturn ( )\n"), api.ErrFormat},
		{inFunc("@2 = global i32 ( ) g\nreturn ( )\n"), api.ErrType},
		{inFunc("output ( 0 )\n@return ( 0 )\n"), api.ErrFormat},
		{inFunc("@trap 15\n"), api.ErrRange},
		{inFunc("@jump 1 ( )\n"), api.ErrNotFound},
		{inFunc("@jump 0 ( )\n"), api.ErrFormat},
		{inFunc("jump 2 ( )\nblock 1 ( )\noutput ( 0 )\noutput ( 0 )\n@branch 0 2 ( ) 2 ( )\nblock 2 ( )\nreturn ( )\n"), api.ErrType},
		{inFunc("jump 1 ( )\nblock 1 ( )\n@switch 0 ( 1 1 ) 1 ( ) 1 ( ) 1 ( )\n"), api.ErrDup},
		{inFunc("jump 1 ( )\nblock 1 ( )\n@switch 0 ( 1 ) 1 ( )\n"), api.ErrFormat},
		{inFunc("jump 1 ( )\nblock 1 ( )\n@switch 0 ( ) 1 ( ) 1 ( )\n"), api.ErrFormat},
		{inFunc("@switch 0 ( " + many(17, "# ") + ")" + many(18, " 1 ( )") + "\n"), api.ErrLimit},
		{inFunc("@tailcall f ( )\n"), api.ErrFormat},
		{inFunc("@tailcall g ( )\n") + "func g ( ) i8\nregs\nblock 0 ( )\ntrap 16\n", api.ErrType},
		{inFunc("@9 = poison i8 ( ) trap 16\n"), api.ErrRange}, // before what is not as printed
		{"  @global g i32 0", api.ErrRange},
	} {
		s := c.marked
		if strings.Contains(s, ") g\n") {
			s = "global g i32 1\n" + s
		}
		expectAt(t, s, c.err)
	}
}

// P16.1, step 5: what is valid, but not as it would be printed
func TestOtherTexts(t *testing.T) {
	for _, marked := range []string{
		"@ ", "@\n", "@ global g i32 1\n", "global g i32 1@", "global g i32 1@ ", "global g i32 1\n@\n", "global g i32 1\n@ ", "global g@\ni32 1\n", "global g i32 1@ \n",
		"global g i32 1@ global h i32 1\n", "global g i32 1 readonly@=1\n", "global g i32 1 @ = 1\n",
		inFunc("0 = add i32 (@0 0)\nreturn ( )\n"), inFunc("@-1 = output ( 0 )\nreturn ( )\n"), inFunc("output @void ( 0 )\nreturn ( )\n"),
		inFunc("output ( 0 )@ return ( )\n"), inFunc("return (@)\n"), inFunc("return (@\n)\n"),
		"func f@( ) void\nregs\nblock 0 ( )\nreturn ( )\n", "func f ( ) void@ regs\nblock 0 ( )\nreturn ( )\n", "func f ( ) void\nregs@ \nblock 0 ( )\nreturn ( )\n",
	} {
		expectAt(t, marked, api.ErrFormat)
	}
}

// P16.1, step 5: a text without blanks that would be too long with them
func TestTextThatWouldBeLong(t *testing.T) {
	line := "10=add nowrap i32(10 10)"
	start := "func f()void\nregs" + strings.Repeat(" i32", 11) + "\nblock 0()\n"
	for _, n := range []int{1984, 1985, 1986, 1987, 1988, 1989, 1990, 1991, 2100} {
		s := start + strings.Repeat(line, n) + "return()"
		printed := len(start) + 4 + len("10 = add nowrap i32 ( 10 10 )\n")*n + len("return ( )\n")
		if printed > api.MaxText {
			expectAt(t, "@"+s, api.ErrLong)
		} else {
			expectError(t, s, len("func f"), api.ErrFormat)
		}
	}
}

// P16.1, step 5: a text as long as a text may be
func TestLongText(t *testing.T) {
	rest := "func f ( ) void\nregs i8\nblock 0 ( )\nreturn ( )\n"
	s := "global g i8 1\n" + strings.Replace(rest, "return", strings.Repeat("output ( 0 )\n", 3999)+"return", 1)
	for len(s) < api.MaxText-8 {
		s = strings.Replace(s, "regs", "regs i8 i64", 1)
	}
	s = strings.Replace(s, "global g", "global g"+strings.Repeat("x", api.MaxText-len(s)), 1)
	m, offset, err := parser.Module(s)
	if len(s) != api.MaxText || offset != 0 || err != api.OK {
		t.Fatalf("%d bytes: %d, %v", len(s), offset, err)
	}
	if text, d := printer.Module(m); text != s || d.Code != api.OK {
		t.Error("another text")
	}
	expectError(t, s+"\n", 0, api.ErrLong)
}

// P16.3: what is read is printed as it was, and it is another module if the text is another one.
func TestChangedTexts(t *testing.T) {
	r := rand.New(rand.NewSource(1))
	read := 0
	for range 20000 {
		s := []byte(sampleText)
		for range 1 + r.Intn(2) {
			i := r.Intn(len(s))
			switch r.Intn(3) {
			case 0:
				s[i] = sampleText[r.Intn(len(sampleText))]
			case 1:
				s[i] = "0123456789\t;-\x00\xff"[r.Intn(15)]
			default:
				s = append(s[:i], s[i+r.Intn(2):]...)
			}
		}
		m, _, err := parser.Module(string(s))
		if err != api.OK {
			continue
		}
		read++
		text, d := printer.Module(m)
		if text != string(s) || d.Code != api.OK || verify.Equal(m, sample()) != (text == sampleText) {
			t.Errorf("%+v, printed:\n%s", d, text)
		}
	}
	if read < 200 || read > 19000 {
		t.Errorf("%d texts are read", read)
	}
}

package verify_test

import (
	"math"

	"burnish/api"
)

// The numbers of instructions of the first blocks of function work.
const (
	entryEnd = 5
	loopEnd  = 1
)

// bodiesWithErrors returns changes to the bodies, in the order in which their errors are reported.
func bodiesWithErrors() []change {
	all := []change{
		{"no blocks", func(m *api.Module) { m.Funcs[done].Blocks = nil }, inFunc(done, api.ErrShort)},
		{"no blocks", func(m *api.Module) { m.Funcs[work].Blocks = nil }, inFunc(work, api.ErrShort)},
		{"too many blocks", func(m *api.Module) { m.Funcs[work].Blocks = blocks(m.Funcs[work].Blocks, api.MaxBlocks+1) }, inFunc(work, api.ErrLimit)},
		{"too many instructions", func(m *api.Module) { addInstrs(m.Funcs[work].Blocks, api.MaxInstrs+1) }, inFunc(work, api.ErrLimit)},
	}
	all = append(all, entryWithErrors()...)
	all = append(all, branchesWithErrors()...)
	all = append(all, switchesWithErrors()...)
	all = append(all, endsWithErrors()...)
	all = append(all, tailCallsWithErrors()...)
	return append(all, laterWithErrors()...)
}

func blocks(list []api.Block, n int) []api.Block {
	for len(list) < n {
		list = append(list, ending(jump(edge(stop))))
	}
	return list
}

// addInstrs adds constants to the second block and to the last one, until all blocks have n instructions together.
func addInstrs(list []api.Block, n int) {
	for _, b := range list {
		n -= len(b.Instrs)
	}
	for i := range n {
		b := &list[loop]
		if i%2 == 0 {
			b = &list[len(list)-1]
		}
		b.Instrs = append(b.Instrs, api.Instr{Op: api.OpConst, Type: api.I32, Dst: x})
	}
}

// changesAt collects changes to one block of function work that are reported at one place.
type changesAt struct {
	block, instr int
	all          []change
}

func (c *changesAt) add(why string, code api.Errno, apply func(b *api.Block)) {
	block := c.block
	c.all = append(c.all, change{why, func(m *api.Module) { apply(&m.Funcs[work].Blocks[block]) }, inBlock(block, c.instr, code)})
}

func (c *changesAt) addTerm(why string, code api.Errno, apply func(t *api.Terminator)) {
	c.add(why, code, func(b *api.Block) { apply(&b.Term) })
}

// entryWithErrors returns changes to the parameters and the instructions of the first block.
func entryWithErrors() []change {
	c := changesAt{block: entry, instr: -1}
	c.add("parameters of block 0", api.ErrFormat, func(b *api.Block) { b.Params = []int{x} })
	c.add("no register as parameter of block 0", api.ErrFormat, func(b *api.Block) { b.Params = []int{-1} })
	c.instr = 0
	c.add("no operation", api.ErrNotFound, func(b *api.Block) { b.Instrs[0].Op = api.OpSpill })
	c.add("a field too many", api.ErrFormat, func(b *api.Block) { b.Instrs[0].Sym = 1 })
	c.add("no register", api.ErrRange, func(b *api.Block) { b.Instrs[0].Dst = 8 })
	c.add("another type", api.ErrType, func(b *api.Block) { b.Instrs[0].Dst = n64 })
	c.add("no integer of the type", api.ErrRange, func(b *api.Block) { b.Instrs[0].Imm = 1 << 31 })
	c.instr = 1
	c.add("no global", api.ErrNotFound, func(b *api.Block) { b.Instrs[1].Sym = 4 })
	c.instr = 3
	c.add("no function", api.ErrNotFound, func(b *api.Block) { b.Instrs[3].Sym = functions })
	c.add("another number of operands", api.ErrFormat, func(b *api.Block) { b.Instrs[3].Sym = mixed })
	c.add("no register as operand", api.ErrRange, func(b *api.Block) { b.Instrs[3].Args[0] = -1 })
	c.add("another operand", api.ErrType, func(b *api.Block) { b.Instrs[3].Args[0] = ptr })
	c.instr = 4
	c.add("no cell type", api.ErrType, func(b *api.Block) { b.Instrs[4].Elem = api.V4 })
	return c.all
}

// branchesWithErrors returns changes to the branch of the first block.
func branchesWithErrors() []change {
	c := changesAt{block: entry, instr: entryEnd}
	for _, kind := range []int{0, -1, 7, math.MinInt, math.MaxInt} {
		c.addTerm("no kind", api.ErrType, func(t *api.Terminator) { t.Kind = kind })
	}
	c.addTerm("no function", api.ErrNotFound, func(t *api.Terminator) { t.Kind, t.Sym = api.TailCall, functions })
	c.addTerm("too many cases", api.ErrLimit, func(t *api.Terminator) { t.Kind, t.Cases = api.Switch, make([]int64, api.MaxCases+1) })
	for kind := api.Jump; kind <= api.TailCall; kind++ {
		if kind != api.Branch {
			c.addTerm("another kind", api.ErrFormat, func(t *api.Terminator) {
				*t = api.Terminator{Kind: kind, Args: []int{cond}, Succs: []api.Edge{edge(stop), edge(stop)}}
			})
		}
	}
	for _, sym := range []int{1, -1, 99} {
		c.addTerm("a function", api.ErrFormat, func(t *api.Terminator) { t.Sym = sym })
	}
	addSizes(&c, "no operand", 0, 0, 2)
	addSizes(&c, "two operands", 2, 0, 2)
	addSizes(&c, "a case", 1, 1, 2)
	addSizes(&c, "one successor", 1, 0, 1)
	addSizes(&c, "three successors", 1, 0, 3)
	for _, r := range []int{-1, 8, math.MinInt, math.MaxInt} {
		c.addTerm("no register", api.ErrRange, func(t *api.Terminator) { t.Args[0] = r })
	}
	for _, r := range []int{x, n64, ptr, vec} {
		c.addTerm("no bool", api.ErrType, func(t *api.Terminator) { t.Args[0] = r })
	}
	addEdges(&c, 0, loop)
	addEdges(&c, 1, exit)
	return c.all
}

// addSizes adds a change to the lengths of a terminator's lists, whose elements have errors that count less.
func addSizes(c *changesAt, why string, args, cases, succs int) {
	original := workBlocks()[c.block].Term
	c.addTerm(why, api.ErrFormat, func(t *api.Terminator) {
		*t = api.Terminator{Kind: original.Kind, Sym: original.Sym, Args: make([]int, args), Cases: make([]int64, cases), Succs: make([]api.Edge, succs)}
		for i := range t.Args {
			t.Args[i] = -1
		}
	})
}

// addEdges adds changes to successor i, which leads to block loop with two operands or to block exit with one.
func addEdges(c *changesAt, i, target int) {
	for _, block := range []int{-1, 6, math.MinInt, math.MaxInt} {
		c.addTerm("no block", api.ErrNotFound, func(t *api.Terminator) { t.Succs[i].Block = block })
	}
	add := func(why string, code api.Errno, block int, args ...int) {
		c.addTerm(why, code, func(t *api.Terminator) { t.Succs[i] = edge(block, args...) })
	}
	add("to block 0", api.ErrFormat, entry)
	add("to block 0, with operands", api.ErrFormat, entry, -1, -1)
	add("to a block without parameters", api.ErrLong, stop, -1)
	if target == exit {
		add("without operands", api.ErrShort, exit)
		add("two operands", api.ErrLong, exit, -1, -1)
		addOperands(c, i, func(r int) api.Edge { return edge(exit, r) }, cond, n64, ptr, vec)
		return
	}
	add("without operands", api.ErrShort, loop)
	add("one operand", api.ErrShort, loop, -1)
	add("three operands", api.ErrLong, loop, -1, -1, -1)
	add("another type before no register", api.ErrType, loop, cond, -1)
	addOperands(c, i, func(r int) api.Edge { return edge(loop, r, cond) }, cond, n64, ptr, vec)
	addOperands(c, i, func(r int) api.Edge { return edge(loop, x, r) }, cond, x, ptr, vec)
}

// addOperands adds changes of one operand of successor i to what is no register, and to registers of other types.
func addOperands(c *changesAt, i int, with func(r int) api.Edge, others ...int) {
	for _, r := range []int{-1, 8, math.MinInt, math.MaxInt} {
		c.addTerm("no register", api.ErrRange, func(t *api.Terminator) { t.Succs[i] = with(r) })
	}
	for _, r := range others {
		c.addTerm("another type", api.ErrType, func(t *api.Terminator) { t.Succs[i] = with(r) })
	}
}

// switchesWithErrors returns changes to the instruction and the switch of the second block.
func switchesWithErrors() []change {
	c := changesAt{block: loop, instr: 0}
	c.add("no operation", api.ErrNotFound, func(b *api.Block) { b.Instrs[0].Op = 0 })
	c.instr = loopEnd
	c.addTerm("too many cases", api.ErrLimit, func(t *api.Terminator) { t.Cases, t.Sym = make([]int64, api.MaxCases+1), 1 })
	c.addTerm("a function", api.ErrFormat, func(t *api.Terminator) { t.Sym = 1 })
	addSizes(&c, "no operand", 0, 3, 4)
	addSizes(&c, "two operands", 2, 3, 4)
	addSizes(&c, "as many cases as successors", 1, 4, 4)
	addSizes(&c, "a successor too many", 1, 3, 5)
	addSizes(&c, "no successors", 1, 0, 0)
	c.addTerm("no register", api.ErrRange, func(t *api.Terminator) { t.Args[0] = 8 })
	for _, r := range []int{cond, ptr, vec} {
		c.addTerm("another type", api.ErrType, func(t *api.Terminator) { t.Args[0] = r })
	}
	addCases := func(why string, code api.Errno, cases ...int64) {
		c.addTerm(why, code, func(t *api.Terminator) { t.Cases = cases })
	}
	addCases("no integer of the type", api.ErrRange, 1<<31, 1, 1)
	addCases("no integer of the type", api.ErrRange, 1, -1<<31-1, 1)
	addCases("no integer of the type, twice", api.ErrRange, math.MaxInt64, math.MaxInt64, 1)
	addCases("a case twice", api.ErrDup, 1, 1, 1<<31)
	addCases("a case twice, but not at once", api.ErrDup, 1, 0, 1)
	addEdges(&c, 0, loop)
	addEdges(&c, 1, exit)
	c.addTerm("no block", api.ErrNotFound, func(t *api.Terminator) { t.Succs[2].Block = 6 })
	c.addTerm("an operand too many", api.ErrLong, func(t *api.Terminator) { t.Succs[2].Args = []int{-1} })
	c.addTerm("default to block 0", api.ErrFormat, func(t *api.Terminator) { t.Succs[3].Block = 0 })
	c.addTerm("default without operands", api.ErrShort, func(t *api.Terminator) { t.Succs[3].Block = loop })
	return c.all
}

// endsWithErrors returns changes to the blocks that end with a return and with a trap.
func endsWithErrors() []change {
	c := changesAt{block: exit, instr: 0}
	addSizes(&c, "no result", 0, 0, 0)
	addSizes(&c, "two results", 2, 0, 0)
	addSizes(&c, "a case", 1, 1, 0)
	addSizes(&c, "a successor", 1, 0, 1)
	c.addTerm("a function", api.ErrFormat, func(t *api.Terminator) { t.Sym = -1 })
	c.addTerm("no register", api.ErrRange, func(t *api.Terminator) { t.Args[0] = -1 })
	c.addTerm("another type", api.ErrType, func(t *api.Terminator) { t.Args[0] = n64 })
	c.block, c.instr = stop, 1
	addSizes(&c, "an operand", 1, 1, 0)
	addSizes(&c, "no code", 0, 0, 0)
	addSizes(&c, "two codes", 0, 2, 0)
	addSizes(&c, "a successor", 0, 1, 1)
	c.addTerm("a function", api.ErrFormat, func(t *api.Terminator) { t.Sym = 1 })
	for _, code := range []int64{0, 2, 15, 256, -16, math.MinInt64, math.MaxInt64} {
		c.addTerm("no code of a trap", api.ErrRange, func(t *api.Terminator) { t.Cases[0] = code })
	}
	return c.all
}

// tailCallsWithErrors returns changes to the block that ends with a tail call.
func tailCallsWithErrors() []change {
	c := changesAt{block: call, instr: 0}
	for _, sym := range []int{-1, functions, math.MinInt, math.MaxInt} {
		c.addTerm("no function", api.ErrNotFound, func(t *api.Terminator) { t.Sym, t.Args = sym, nil })
	}
	addSizes(&c, "an operand too few", 1, 0, 0)
	addSizes(&c, "an operand too many", 3, 0, 0)
	addSizes(&c, "a case", 2, 1, 0)
	addSizes(&c, "a successor", 2, 0, 1)
	add := func(why string, code api.Errno, sym int, args ...int) {
		c.addTerm(why, code, func(t *api.Terminator) { t.Sym, t.Args = sym, args })
	}
	add("another number of operands", api.ErrFormat, same, -1, -1)
	add("no register", api.ErrRange, mixed, 8, ptr)
	add("no register before another type", api.ErrRange, mixed, -1, x)
	add("another type before no register", api.ErrType, mixed, cond, -1)
	add("no register second", api.ErrRange, mixed, x, -1)
	add("another type second", api.ErrType, mixed, x, x)
	add("no register before another result", api.ErrRange, last, -1)
	add("another type before another result", api.ErrType, last, x)
	add("another result", api.ErrType, last, n64)
	add("no result", api.ErrType, done)
	return c.all
}

// laterWithErrors returns changes to the last block, to which no block before it leads, and to the last function.
func laterWithErrors() []change {
	c := changesAt{block: wide, instr: -1}
	addParams := func(why string, code api.Errno, params ...int) {
		c.add(why, code, func(b *api.Block) { b.Params = params })
	}
	for _, r := range []int{-1, 8, math.MinInt, math.MaxInt} {
		addParams("no register", api.ErrRange, r, n64)
		addParams("no register second", api.ErrRange, 6, r, 6)
	}
	addParams("a parameter twice", api.ErrDup, 6, 6, -1)
	addParams("a parameter twice, but not at once", api.ErrDup, 6, n64, 6)
	c.instr = 0
	c.addTerm("cases of another type", api.ErrRange, func(t *api.Terminator) { t.Args[0] = x })
	c.addTerm("a case twice", api.ErrDup, func(t *api.Terminator) { t.Cases[1] = math.MinInt64 })
	c.addTerm("no block", api.ErrNotFound, func(t *api.Terminator) { t.Succs[2].Block = 99 })
	addLast := func(why string, instr int, code api.Errno, apply func(f *api.Func)) {
		want := api.Diagnostic{Code: code, Part: api.PartFunc, Index: last, Instr: instr}
		c.all = append(c.all, change{why, func(m *api.Module) { apply(&m.Funcs[last]) }, want})
	}
	addLast("no operation", 0, api.ErrNotFound, func(f *api.Func) { f.Blocks[0].Instrs[0].Op = 34 })
	addLast("a result of a function without one", 1, api.ErrFormat, func(f *api.Func) { f.Blocks[0].Term = result(0) })
	addLast("a callee with a result", 1, api.ErrType, func(f *api.Func) {
		f.Regs = []api.Type{api.I64, api.I32}
		f.Blocks[0].Term = api.Terminator{Kind: api.TailCall, Sym: same, Args: []int{1}}
	})
	return c.all
}

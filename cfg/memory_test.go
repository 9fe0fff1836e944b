package cfg_test

import (
	"reflect"
	"testing"
	"unsafe"

	"burnish/api"
	"burnish/cfg"
	"burnish/printer"
	"burnish/verify"
)

func expectText(t *testing.T, m api.Module, fn int, want string) {
	t.Helper()
	if text, d := printer.Func(m, fn); text != want {
		t.Errorf("%+v\n%s\nwant\n%s", d, text, want)
	}
}

// visit calls do with all lists and names in v.
func visit(v reflect.Value, do func(part reflect.Value)) {
	switch v.Kind() {
	case reflect.Struct:
		for i := range v.NumField() {
			visit(v.Field(i), do)
		}
	case reflect.Slice:
		do(v)
		for i := range v.Len() {
			visit(v.Index(i), do)
		}
	case reflect.String:
		do(v)
	}
}

// address returns where a list or a name is stored, or nil if it has no bytes.
func address(part reflect.Value) unsafe.Pointer {
	switch {
	case part.Kind() == reflect.Slice && part.Cap() > 0:
		return part.UnsafePointer()
	case part.Kind() == reflect.String && part.Len() > 0:
		return unsafe.Pointer(unsafe.StringData(part.String()))
	}
	return nil
}

// results returns what the functions of the package return for f.
func results(f api.Func) map[string]any {
	all := map[string]any{"Graph": cfg.Graph(f), "Defs": cfg.Defs(f), "Uses": cfg.Uses(f)}
	all["NewReg"], _ = cfg.NewReg(f, api.I64)
	all["Permute"] = cfg.Permute(f, []int{2, 1, 0, 4, 3, 5, 6, 7})
	all["Permute by no permutation"] = cfg.Permute(f, nil)
	all["SplitEdge"], _ = cfg.SplitEdge(f, 0, 1)
	var reads, writes [][]int
	for _, at := range positionsOf(f) {
		reads, writes = append(reads, cfg.Reads(f, at)), append(writes, cfg.Writes(f, at))
	}
	all["Reads"], all["Writes"] = reads, writes
	return all
}

// sharing returns the sample's function with more blocks whose lists are in one memory.
func sharing(t *testing.T) api.Func {
	f := sample(t)
	list := []int{3, 4, 3}
	edges := []api.Edge{{Block: 1, Args: list}, {Block: 2, Args: list}}
	b := api.Block{Params: list, Instrs: []api.Instr{{Args: list}, {Args: list[:2]}}, Term: api.Terminator{Args: list, Succs: edges}}
	f.Params = list
	f.Blocks = append(f.Blocks, b, b)
	return f
}

// DOC.md, Rule 4; LANGUAGE.md, rule 7
func TestResultsAreNewMemory(t *testing.T) {
	f := sharing(t)
	for name, result := range results(f) {
		given := map[unsafe.Pointer]bool{}
		visit(reflect.ValueOf(f), func(part reflect.Value) { given[address(part)] = true })
		delete(given, nil)
		found := 0
		visit(reflect.ValueOf(result), func(part reflect.Value) {
			if at := address(part); at != nil {
				found++
				if given[at] {
					t.Errorf("%s: %v is in memory of the function, or of another list", name, part)
				}
				given[at] = true
			}
		})
		if found < 5 {
			t.Errorf("%s: %d lists and names", name, found)
		}
	}
}

// The section Ways of the chapter: what is appended to a copy goes to new memory.
func TestCopiesHaveNoRoom(t *testing.T) {
	all := results(sharing(t))
	delete(all, "Defs") // these are not copies of lists
	delete(all, "Uses")
	delete(all, "Reads")
	delete(all, "Writes")
	for name, result := range all {
		visit(reflect.ValueOf(result), func(part reflect.Value) {
			if part.Kind() == reflect.Slice && part.Cap() != part.Len() {
				t.Errorf("%s: %v has room for %d", name, part, part.Cap())
			}
		})
	}
	for _, at := range positionsOf(sharing(t)) {
		reads, writes := cfg.Reads(sharing(t), at), cfg.Writes(sharing(t), at)
		if cap(reads) != len(reads) || cap(writes) != len(writes) {
			t.Errorf("at %v: Reads %v with room for %d, Writes %v with room for %d", at, reads, cap(reads), writes, cap(writes))
		}
	}
}

// roomy returns a list with the same elements in memory that has room for more.
func roomy[T any](list []T) []T {
	return append(make([]T, 0, len(list)+5), list...)
}

// inRoom returns f with room behind each list.
func inRoom(f api.Func) api.Func {
	f = verify.CloneFunc(f)
	f.Params, f.Regs, f.Blocks = roomy(f.Params), roomy(f.Regs), roomy(f.Blocks)
	for i := range f.Blocks {
		b := &f.Blocks[i]
		b.Params, b.Instrs, b.Term.Args, b.Term.Cases, b.Term.Succs = roomy(b.Params), roomy(b.Instrs), roomy(b.Term.Args), roomy(b.Term.Cases), roomy(b.Term.Succs)
		for j := range b.Instrs {
			b.Instrs[j].Args = roomy(b.Instrs[j].Args)
		}
		for j := range b.Term.Succs {
			b.Term.Succs[j].Args = roomy(b.Term.Succs[j].Args)
		}
	}
	return f
}

// DOC.md, Rule 4: nothing is written to the function's lists, nor behind them.
func TestFunctionsStayAsTheyAre(t *testing.T) {
	for _, original := range []api.Func{sharing(t), invalid()} {
		f := inRoom(original)
		results(f)
		if !verify.EqualFunc(f, original) {
			t.Errorf("the function has become %+v", f)
		}
		visit(reflect.ValueOf(f), func(part reflect.Value) {
			if part.Kind() != reflect.Slice {
				return
			}
			whole := part.Slice(0, part.Cap())
			for i := part.Len(); i < part.Cap(); i++ {
				if !whole.Index(i).IsZero() {
					t.Errorf("%v is behind %v", whole.Index(i), part)
				}
			}
		})
	}
}

// DOC.md, Rule 5: for equal arguments the results are equal, and changes to one do not reach the other.
func TestResultsAreIndependent(t *testing.T) {
	f := sharing(t)
	first, second, want := results(f), results(f), results(sharing(t))
	for name := range first {
		visit(reflect.ValueOf(first[name]), func(part reflect.Value) {
			if part.Kind() == reflect.Slice && part.Len() > 0 && part.Index(0).CanInt() {
				part.Index(0).SetInt(77)
			}
		})
		if !reflect.DeepEqual(second[name], want[name]) {
			t.Errorf("%s: %+v, want %+v", name, second[name], want[name])
		}
	}
	if !verify.EqualFunc(f, sharing(t)) {
		t.Errorf("the function has become %+v", f)
	}
}

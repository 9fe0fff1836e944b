package layers

import (
	"go/parser"
	"go/token"
	"os"
	"path/filepath"
	"slices"
	"strconv"
	"strings"
	"testing"
)

// The layers in the order of the document's map.
var layers = strings.Fields(`intn varint bitset intern worklist digraph scc domtree domfrontier loopinfo
	value opcode lexer verify printer parser memory interp refine cfg liveness ssaform expr witness
	ssabuild outofssa alias memoryssa term symstate symexec callexpand validator peephole sccp cleanup
	gvn pre licm induction strength unroll slp inliner tailcall jumpthread dse loadelim passmanager
	machine lower sched interval regalloc allocverify machinesim bisect samples script audit`)

// The packages of Go's library that the program may import.
var library = strings.Fields(`bytes cmp container/heap errors iter maps math math/bits slices sort strconv
	strings sync sync/atomic unicode unicode/utf8`)

// imports returns what the files of a folder import, those of tests aside.
func imports(t *testing.T, folder string) []string {
	files, err := filepath.Glob(filepath.Join("..", folder, "*.go"))
	if err != nil || len(files) == 0 {
		t.Fatalf("%s: no Go files, %v", folder, err)
	}
	var all []string
	for _, file := range files {
		if strings.HasSuffix(file, "_test.go") {
			continue
		}
		text, err := os.ReadFile(file)
		if err != nil {
			t.Fatal(err)
		}
		tree, err := parser.ParseFile(token.NewFileSet(), file, text, parser.ImportsOnly)
		if err != nil {
			t.Fatal(err)
		}
		for _, spec := range tree.Imports {
			path, _ := strconv.Unquote(spec.Path.Value)
			all = append(all, path)
		}
	}
	return all
}

// A layer calls lower layers only, and little of Go's library.
func TestLayersImportLowerLayersOnly(t *testing.T) {
	if len(layers) != 60 {
		t.Fatalf("%d layers", len(layers))
	}
	for i, layer := range layers {
		for _, path := range imports(t, layer) {
			own, ofProject := strings.CutPrefix(path, "burnish/")
			if ofProject && own != "api" && !slices.Contains(layers[:i], own) || !ofProject && !slices.Contains(library, path) {
				t.Errorf("%s imports %s", layer, path)
			}
		}
	}
}

// The chapters of these layers let them import api and nothing else.
func TestLayersThatImportAPIOnly(t *testing.T) {
	for _, layer := range []string{"intn", "varint", "intern", "worklist", "lexer", "cfg"} {
		for _, path := range imports(t, layer) {
			if path != "burnish/api" {
				t.Errorf("%s imports %s", layer, path)
			}
		}
	}
}

// The chapters of these layers name the packages of the project that they import, beside api.
func TestLayersThatNameTheirImports(t *testing.T) {
	for layer, named := range map[string][]string{
		"digraph":     {"bitset"},
		"scc":         {"digraph"},
		"domtree":     {"digraph", "worklist"},
		"domfrontier": {"bitset", "digraph", "domtree"},
		"loopinfo":    {"digraph", "domtree"},
		"value":       {"intn"},
		"opcode":      {"intn"},
		"verify":      {"intn", "opcode", "lexer"},
		"printer":     {"opcode", "lexer", "verify"},
		"parser":      {"opcode", "lexer", "verify", "printer"},
		"memory":      {"value", "opcode", "verify"},
		"interp":      {"value", "opcode", "verify", "memory"},
		"refine":      {"value", "verify"},
		"liveness":    {"bitset", "worklist", "cfg"},
		"ssaform":     {"digraph", "domtree", "cfg"},
		"expr":        {"opcode"},
		"witness":     {"varint", "domtree", "verify", "cfg", "liveness", "expr"},
	} {
		for _, path := range imports(t, layer) {
			own, ofProject := strings.CutPrefix(path, "burnish/")
			if ofProject && own != "api" && !slices.Contains(named, own) {
				t.Errorf("%s imports %s", layer, path)
			}
		}
	}
}

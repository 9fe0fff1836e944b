package loopinfo_test

import (
	"math"
	"slices"
	"testing"

	"burnish/api"
	"burnish/loopinfo"
)

func sameLoop(a, b api.Loop) bool {
	return a.Header == b.Header && a.Parent == b.Parent && a.Depth == b.Depth &&
		slices.Equal(a.Blocks, b.Blocks) && slices.Equal(a.Latches, b.Latches) && slices.Equal(a.Exits, b.Exits)
}

func graph(succs ...[]int) api.Graph {
	return api.Graph{Succs: succs}
}

// expect checks the answers of the functions of graphs.
func expect(t *testing.T, name string, g api.Graph, entry int, loops []api.Loop, reducible bool, cycleHeaders []int) {
	t.Helper()
	if got := loopinfo.Loops(g, entry); !slices.EqualFunc(got, loops, sameLoop) {
		t.Errorf("%s: Loops %v, want %v", name, got, loops)
	}
	if got := loopinfo.Reducible(g, entry); got != reducible {
		t.Errorf("%s: Reducible %v", name, got)
	}
	if got := loopinfo.CycleHeaders(g, entry); !slices.Equal(got, cycleHeaders) {
		t.Errorf("%s: CycleHeaders %v, want %v", name, got, cycleHeaders)
	}
}

// Examples 1 and 2
func TestExamples(t *testing.T) {
	expect(t, "example 1", graph([]int{1}, []int{2, 3}, []int{1, 2}, nil), 0, []api.Loop{
		{Header: 1, Parent: -1, Depth: 1, Blocks: []int{1, 2}, Latches: []int{2}, Exits: []int{1}},
		{Header: 2, Parent: 0, Depth: 2, Blocks: []int{2}, Latches: []int{2}, Exits: []int{2}},
	}, true, []int{1, 2})
	expect(t, "example 2", graph([]int{1, 2}, []int{2}, []int{1}), 0, nil, false, []int{1})
}

// P10.1, P10.3
func TestGraphsWithoutLoops(t *testing.T) {
	expect(t, "one node", graph(nil), 0, nil, true, nil)
	expect(t, "a chain", graph([]int{1}, []int{2}, nil), 0, nil, true, nil)
	expect(t, "a diamond", graph([]int{1, 2}, []int{3, 3}, []int{3}, nil), 0, nil, true, nil)
	expect(t, "an unreachable loop", graph(nil, []int{2, 1}, []int{1, 0}), 0, nil, true, nil)
	expect(t, "two unreachable entries to a circle", graph(nil, []int{2}, []int{1}, []int{1, 2}), 0, nil, true, nil)
}

// P10.1, P10.3
func TestSingleLoops(t *testing.T) {
	loop := func(header int, blocks, latches, exits []int) []api.Loop {
		return []api.Loop{{Header: header, Parent: -1, Depth: 1, Blocks: blocks, Latches: latches, Exits: exits}}
	}
	expect(t, "the entry alone", graph([]int{0}), 0, loop(0, []int{0}, []int{0}, nil), true, []int{0})
	expect(t, "edges twice", graph([]int{1, 1}, []int{0, 2, 0, 2}, nil), 0, loop(0, []int{0, 1}, []int{1}, []int{1}), true, []int{0})
	expect(t, "another entry", graph([]int{1}, []int{0}, []int{1}), 1, loop(1, []int{0, 1}, []int{0}, nil), true, []int{1})
	expect(t, "a node before it that comes later", graph([]int{1}, []int{0, 2}, nil, []int{0}), 3, loop(0, []int{0, 1}, []int{1}, []int{1}), true, []int{0})
	expect(t, "two latches and two exits", graph([]int{4}, []int{4, 5}, []int{4}, []int{2, 1}, []int{3, 5}, nil), 0,
		loop(4, []int{1, 2, 3, 4}, []int{1, 2}, []int{1, 4}), true, []int{4})
	expect(t, "the header is a latch too", graph([]int{1}, []int{2, 1}, []int{1, 3}, nil), 0, loop(1, []int{1, 2}, []int{1, 2}, []int{2}), true, []int{1})
	expect(t, "an unreachable node before a latch", graph([]int{1}, []int{0}, []int{1, 0}), 0, loop(0, []int{0, 1}, []int{1}, nil), true, []int{0})
	expect(t, "a way to the exit by a node that cannot come back", graph([]int{1, 2}, []int{0}, []int{3}, nil), 0, loop(0, []int{0, 1}, []int{1}, []int{0}), true, []int{0})
}

// P10.1
func TestNesting(t *testing.T) {
	// 5 has 3 in it, which has 4 and 1 in it; 2 is beside them.
	g := graph([]int{5}, []int{1, 6}, []int{2}, []int{4}, []int{4, 1}, []int{3}, []int{3, 7}, []int{5, 2})
	expect(t, "three levels", g, 0, []api.Loop{
		{Header: 1, Parent: 2, Depth: 3, Blocks: []int{1}, Latches: []int{1}, Exits: []int{1}},
		{Header: 2, Parent: -1, Depth: 1, Blocks: []int{2}, Latches: []int{2}},
		{Header: 3, Parent: 4, Depth: 2, Blocks: []int{1, 3, 4, 6}, Latches: []int{6}, Exits: []int{6}},
		{Header: 4, Parent: 2, Depth: 3, Blocks: []int{4}, Latches: []int{4}, Exits: []int{4}},
		{Header: 5, Parent: -1, Depth: 1, Blocks: []int{1, 3, 4, 5, 6, 7}, Latches: []int{7}, Exits: []int{7}},
	}, true, []int{1, 2, 3, 4, 5})
}

// P10.1, P10.3: a loop can contain a circle with two entries, and be in one
func TestIrreducibleGraphs(t *testing.T) {
	expect(t, "a circle in a loop", graph([]int{1, 2}, []int{2}, []int{1, 3}, []int{0, 4}, nil), 0, []api.Loop{
		{Header: 0, Parent: -1, Depth: 1, Blocks: []int{0, 1, 2, 3}, Latches: []int{3}, Exits: []int{3}},
	}, false, []int{0, 1})
	expect(t, "a loop in a circle", graph([]int{1, 2}, []int{2}, []int{3}, []int{2, 1}), 0, []api.Loop{
		{Header: 2, Parent: -1, Depth: 1, Blocks: []int{2, 3}, Latches: []int{3}, Exits: []int{3}},
	}, false, []int{1, 2})
	expect(t, "the other order", graph([]int{2, 1}, []int{2}, []int{1}), 0, nil, false, []int{2})
}

// Definitions: edges to numbers that are not nodes
func TestStrayEdgesAreIgnored(t *testing.T) {
	g := graph([]int{-1, 1, 4}, []int{math.MaxInt, 2, 3, math.MinInt}, []int{1, 9, 2}, []int{4, -7})
	expect(t, "stray edges", g, 0, []api.Loop{
		{Header: 1, Parent: -1, Depth: 1, Blocks: []int{1, 2}, Latches: []int{2}, Exits: []int{1}},
		{Header: 2, Parent: 0, Depth: 2, Blocks: []int{2}, Latches: []int{2}, Exits: []int{2}},
	}, true, []int{1, 2})
	expect(t, "no others", graph([]int{1, -1}, []int{2}), 0, nil, true, nil)
}

// Functions: entries that are not nodes, and more than MaxNodes nodes
func TestInvalidArguments(t *testing.T) {
	type arguments struct {
		g     api.Graph
		entry int
	}
	large := api.Graph{Succs: make([][]int, api.MaxNodes+1)}
	large.Succs[0] = []int{0}
	small := graph([]int{0, 1}, []int{0})
	for name, c := range map[string]arguments{
		"no nodes":                            {graph(), 0},
		"entry -1":                            {small, -1},
		"entry n":                             {small, 2},
		"the least entry":                     {small, math.MinInt},
		"the greatest entry":                  {small, math.MaxInt},
		"too many nodes":                      {large, 0},
		"too many, and an entry that is none": {large, -1},
	} {
		if loops, headers := loopinfo.Loops(c.g, c.entry), loopinfo.CycleHeaders(c.g, c.entry); loops != nil || headers != nil {
			t.Errorf("%s: Loops %v, CycleHeaders %v", name, loops, headers)
		}
		if loopinfo.Reducible(c.g, c.entry) {
			t.Errorf("%s: Reducible", name)
		}
	}
	large.Succs = large.Succs[:api.MaxNodes]
	expect(t, "MaxNodes nodes", large, 0, []api.Loop{{Parent: -1, Depth: 1, Blocks: []int{0}, Latches: []int{0}}}, true, []int{0})
}

// P10.2
func TestInnermost(t *testing.T) {
	g := graph([]int{1}, []int{2, 3}, []int{1, 2}, nil)
	loops := loopinfo.Loops(g, 0)
	for name, c := range map[string]struct {
		loops []api.Loop
		n     int
		want  []int
	}{
		"of example 1":       {loops, 4, []int{-1, 0, 1, -1}},
		"of more nodes":      {loops, 6, []int{-1, 0, 1, -1, -1, -1}},
		"of fewer nodes":     {loops, 2, []int{-1, 0}},
		"the other way":      {[]api.Loop{loops[1], loops[0]}, 4, []int{-1, 1, 0, -1}},
		"no loops":           {nil, 3, []int{-1, -1, -1}},
		"no nodes":           {loops, 0, nil},
		"less than no nodes": {loops, -1, nil},
		"the least number":   {loops, math.MinInt, nil},
		"the greatest":       {loops, math.MaxInt, nil},
		"more than MaxNodes": {loops, api.MaxNodes + 1, nil},
		"equal depths":       {[]api.Loop{{Depth: 2, Blocks: []int{0, 1}}, {Depth: 2, Blocks: []int{1, 2}}, {Depth: 1, Blocks: []int{2, 3}}}, 4, []int{0, 0, 1, 2}},
		"depths below 1":     {[]api.Loop{{Depth: math.MinInt, Blocks: []int{0, 1}}, {Depth: -1, Blocks: []int{1, 2}}, {Depth: 0, Blocks: []int{2}}}, 4, []int{0, 1, 2, -1}},
		"headers alone":      {[]api.Loop{{Header: 1, Depth: 1, Latches: []int{1}, Exits: []int{1}}}, 3, []int{-1, -1, -1}},
		"blocks in disorder": {[]api.Loop{{Depth: 1, Blocks: []int{2, 0, 2, -1, 3, math.MinInt, math.MaxInt}}}, 3, []int{0, -1, 0}},
	} {
		if got := loopinfo.Innermost(c.loops, c.n); !slices.Equal(got, c.want) {
			t.Errorf("%s: Innermost %v, want %v", name, got, c.want)
		}
	}
	if got := loopinfo.Innermost(loops, api.MaxNodes); len(got) != api.MaxNodes || got[2] != 1 || got[api.MaxNodes-1] != -1 {
		t.Errorf("MaxNodes nodes: Innermost has %d elements", len(got))
	}
}

// lists returns all lists of some loops.
func lists(loops []api.Loop) [][]int {
	var lists [][]int
	for _, loop := range loops {
		lists = append(lists, loop.Blocks, loop.Latches, loop.Exits)
	}
	return lists
}

// Rules 4 and 5
func TestArgumentsAndAnswersAreApart(t *testing.T) {
	g := graph([]int{1}, []int{2, 3, 7}, []int{1, 2, 1}, nil)
	want := []api.Loop{
		{Header: 1, Parent: -1, Depth: 1, Blocks: []int{1, 2}, Latches: []int{2}, Exits: []int{1}},
		{Header: 2, Parent: 0, Depth: 2, Blocks: []int{2}, Latches: []int{2}, Exits: []int{2}},
	}
	for range 2 {
		expect(t, "once and again", g, 0, want, true, []int{1, 2})
		loops := loopinfo.Loops(g, 0)
		innermost := loopinfo.Innermost(loops, 4)
		if !slices.Equal(innermost, []int{-1, 0, 1, -1}) || !slices.EqualFunc(loops, want, sameLoop) {
			t.Fatalf("Innermost %v, the loops are now %v", innermost, loops)
		}
		if !slices.EqualFunc(g.Succs, [][]int{{1}, {2, 3, 7}, {1, 2, 1}, nil}, slices.Equal[[]int]) {
			t.Fatalf("the graph is now %v", g)
		}
		clear(innermost)
		all := lists(loops)
		for i := range all { // appending to one list must not reach another
			all[i] = append(all[i], 77)
		}
		for _, list := range all {
			if slices.Index(list, 77) != len(list)-1 {
				t.Fatalf("the lists of one answer share memory: %v", all)
			}
			clear(list)
		}
	}
}

package domfrontier_test

import (
	"math"
	"slices"
	"testing"

	"burnish/api"
	"burnish/domfrontier"
	"burnish/domtree"
)

// The graph and the tree of example 1.
func example() (g api.Graph, idom []int) {
	return api.Graph{Succs: [][]int{{1, 2}, {3}, {3}, {1}}}, []int{0, 0, 0, 0}
}

func equal(a, b [][]int) bool {
	return slices.EqualFunc(a, b, slices.Equal[[]int])
}

// Example 1
func TestExample(t *testing.T) {
	frontier := domfrontier.Build(example())
	if !equal(frontier, [][]int{{}, {3}, {3}, {1}}) {
		t.Errorf("Build %v", frontier)
	}
	if got := domfrontier.Iterated(frontier, []int{2}); !slices.Equal(got, []int{1, 3}) {
		t.Errorf("Iterated %v", got)
	}
	g, idom := example()
	if got := domfrontier.JoinPoints(g, idom, []int{2}); !slices.Equal(got, []int{1, 3}) {
		t.Errorf("JoinPoints %v", got)
	}
}

// P9.1: the trees are those of domtree
func TestBuild(t *testing.T) {
	for name, c := range map[string]struct{ succs, want [][]int }{
		"one node":               {[][]int{nil}, [][]int{{}}},
		"a loop at the root":     {[][]int{{0, 0}}, [][]int{{0}}},
		"a loop elsewhere":       {[][]int{{1}, {1}}, [][]int{{}, {1}}},
		"back to the root":       {[][]int{{1}, {2}, {0}}, [][]int{{0}, {0}, {0}}},
		"a chain":                {[][]int{{1}, {2}, nil}, [][]int{{}, {}, {}}},
		"a diamond":              {[][]int{{1, 2}, {3}, {3}, nil}, [][]int{{}, {3}, {3}, {}}},
		"edges twice":            {[][]int{{1, 2, 1}, {2, 2}, nil}, [][]int{{}, {2}, {}}},
		"a loop of two":          {[][]int{{1}, {2}, {1, 3}, nil}, [][]int{{}, {1}, {1}, {}}},
		"loops in each other":    {[][]int{{1}, {2}, {3}, {2, 4}, {1, 5}, nil}, [][]int{{}, {1}, {1, 2}, {1, 2}, {1}, {}}},
		"two ways round":         {[][]int{{1, 2}, {2}, {1}}, [][]int{{}, {2}, {1}}},
		"from an unreachable":    {[][]int{{1}, nil, {1, 2}}, [][]int{{}, {}, {}}},
		"a join of unreachables": {[][]int{{1, 2}, nil, {1}, {4, 1}, {4}}, [][]int{{}, {}, {1}, {}, {}}},
		"sorted":                 {[][]int{{5, 4, 1, 3, 2}, {5, 3, 2}, nil, nil, nil, {4, 2}}, [][]int{{}, {2, 3, 5}, {}, {}, {}, {2, 4}}},
	} {
		g := api.Graph{Succs: c.succs}
		if got := domfrontier.Build(g, domtree.Build(g, 0)); !equal(got, c.want) {
			t.Errorf("%s: Build %v, want %v", name, got, c.want)
		}
	}
}

// P9.1: a tree need not be the graph's
func TestBuildOfAnyTree(t *testing.T) {
	for name, c := range map[string]struct {
		succs [][]int
		idom  []int
		want  [][]int
	}{
		"a chain upside down":     {[][]int{{1}, {2}, nil}, []int{1, 2, 2}, [][]int{{1}, {1, 2}, {2}}},
		"no edges":                {[][]int{nil, nil}, []int{1, 1}, [][]int{{}, {}}},
		"edges across":            {[][]int{nil, nil, nil, {4}, {3}}, []int{0, 0, 0, 1, 2}, [][]int{{}, {4}, {3}, {4}, {3}}},
		"an edge far down":        {[][]int{{3}, nil, nil, nil}, []int{0, 0, 1, 2}, [][]int{{}, {}, {}, {}}},
		"an edge far up":          {[][]int{nil, nil, nil, {0, 1}}, []int{0, 0, 1, 2}, [][]int{{0}, {0, 1}, {0, 1}, {0, 1}}},
		"an edge to the far side": {[][]int{nil, nil, {4}, nil, nil}, []int{0, 0, 1, 0, 3}, [][]int{{}, {4}, {4}, {}, {}}},
		"only some in the tree":   {[][]int{{1, 2}, {2, 1}, {1, 0, 2}}, []int{0, -1, 0}, [][]int{{0}, {}, {0, 2}}},
		"the root last":           {[][]int{{1, 0}, {0}, {2}}, []int{2, 2, 2}, [][]int{{0, 1}, {0}, {2}}},
	} {
		if got := domfrontier.Build(api.Graph{Succs: c.succs}, c.idom); !equal(got, c.want) {
			t.Errorf("%s: Build %v, want %v", name, got, c.want)
		}
	}
}

// expectNil checks that g or idom is rejected.
func expectNil(t *testing.T, name string, g api.Graph, idom []int) {
	t.Helper()
	if got := domfrontier.Build(g, idom); got != nil {
		t.Errorf("%s: Build returns %d lists", name, len(got))
	}
	if got := domfrontier.JoinPoints(g, idom, []int{0, 1, 2, 3}); got != nil {
		t.Errorf("%s: JoinPoints returns %d nodes", name, len(got))
	}
}

// Terms: dominator tree shapes
func TestListsThatAreNoTreeShapes(t *testing.T) {
	g, _ := example()
	for name, idom := range map[string][]int{
		"nil":                  nil,
		"too short":            {0, 0, 0},
		"too long":             {0, 0, 0, 0, 0},
		"too long by a -1":     {0, 0, 0, 0, -1},
		"nothing in it":        {-1, -1, -1, -1},
		"two roots":            {0, 0, 2, 0},
		"a circle of two":      {0, 0, 3, 2},
		"a circle alone":       {1, 2, 3, 0},
		"a way into a circle":  {0, 2, 3, 2},
		"a way out of it":      {0, -1, 1, 0},
		"element -2":           {0, 0, -2, 0},
		"element n":            {0, 0, 4, 0},
		"the least integer":    {0, 0, 0, math.MinInt},
		"the greatest integer": {math.MaxInt, 0, 0, 0},
	} {
		expectNil(t, name, g, idom)
	}
	expectNil(t, "no nodes", api.Graph{}, nil)
	expectNil(t, "no nodes, but a tree", api.Graph{}, []int{0})
}

// Terms: graphs that digraph.Check rejects
func TestRejectedGraphs(t *testing.T) {
	_, idom := example()
	for name, succ := range map[string]int{"-1": -1, "n": 4, "the least": math.MinInt, "the greatest": math.MaxInt} {
		expectNil(t, name, api.Graph{Succs: [][]int{{1, 2}, {3}, {3}, {1, succ}}}, idom)
		expectNil(t, name, api.Graph{Succs: [][]int{{1, 2}, {3}, {succ}, nil}}, []int{0, 0, -1, 1})
	}
	tooMany := api.Graph{Succs: make([][]int, api.MaxNodes+1)}
	tooMany.Succs[0] = []int{0}
	expectNil(t, "too many nodes", tooMany, make([]int, api.MaxNodes+1))
}

// P9.2
func TestIterated(t *testing.T) {
	frontier := [][]int{{1}, {2, 7}, {1}, {3, 0, 0}, {}, {-4, 9, 4}, nil, {}}
	for name, c := range map[string]struct{ nodes, want []int }{
		"none":               {nil, nil},
		"no elements":        {[]int{4, 6, 7}, nil},
		"one step":           {[]int{1}, []int{1, 2, 7}},
		"not itself":         {[]int{0}, []int{1, 2, 7}},
		"itself":             {[]int{3}, []int{0, 1, 2, 3, 7}},
		"no indices":         {[]int{-1, 8, -4, 9, math.MinInt, math.MaxInt}, nil},
		"elements that are":  {[]int{5}, []int{-4, 4, 9}},
		"twice":              {[]int{2, 2, -1, 2}, []int{1, 2, 7}},
		"more than one":      {[]int{5, 6, 0}, []int{-4, 1, 2, 4, 7, 9}},
		"the last and first": {[]int{7, 0}, []int{1, 2, 7}},
	} {
		if got := domfrontier.Iterated(frontier, c.nodes); !slices.Equal(got, c.want) {
			t.Errorf("%s: Iterated %v, want %v", name, got, c.want)
		}
	}
	if got := domfrontier.Iterated(nil, []int{0, 1}); len(got) != 0 {
		t.Errorf("Iterated of no frontiers %v", got)
	}
	if got := domfrontier.Iterated([][]int{{math.MaxInt, 0, math.MinInt}}, []int{0}); !slices.Equal(got, []int{math.MinInt, 0, math.MaxInt}) {
		t.Errorf("Iterated with far elements %v", got)
	}
}

// P9.3
func TestJoinPoints(t *testing.T) {
	g, idom := example()
	for name, c := range map[string]struct{ nodes, want []int }{
		"none":      {nil, nil},
		"the root":  {[]int{0}, nil},
		"a loop":    {[]int{3}, []int{1, 3}},
		"no nodes":  {[]int{-1, 4, math.MinInt, math.MaxInt}, nil},
		"some":      {[]int{-1, 2, 9, 0, 2}, []int{1, 3}},
		"all nodes": {[]int{3, 2, 1, 0}, []int{1, 3}},
	} {
		if got := domfrontier.JoinPoints(g, idom, c.nodes); !slices.Equal(got, c.want) {
			t.Errorf("%s: JoinPoints %v, want %v", name, got, c.want)
		}
	}
	g.Succs = append(g.Succs, []int{1, 4})
	if got := domfrontier.JoinPoints(g, append(idom, -1), []int{4}); len(got) != 0 {
		t.Errorf("JoinPoints of a node outside the tree %v", got)
	}
}

// Rules 4 and 5
func TestArgumentsAndAnswersAreApart(t *testing.T) {
	g, idom := example()
	g.Succs[3] = append(g.Succs[3], 3, 0)
	nodes := []int{2, 2, 7, 0}
	want := [][]int{{0}, {3}, {3}, {0, 1, 3}}
	for range 2 {
		frontier := domfrontier.Build(g, idom)
		if !equal(frontier, want) {
			t.Fatalf("Build %v", frontier)
		}
		iterated, joins := domfrontier.Iterated(frontier, nodes), domfrontier.JoinPoints(g, idom, nodes)
		if !slices.Equal(iterated, []int{0, 1, 3}) || !slices.Equal(joins, []int{0, 1, 3}) {
			t.Fatalf("Iterated %v, JoinPoints %v", iterated, joins)
		}
		clear(iterated)
		clear(joins)
		if !equal(frontier, want) || !equal(g.Succs, [][]int{{1, 2}, {3}, {3}, {1, 3, 0}}) || !slices.Equal(idom, []int{0, 0, 0, 0}) || !slices.Equal(nodes, []int{2, 2, 7, 0}) {
			t.Fatalf("the arguments are now %v, %v, %v, %v", frontier, g, idom, nodes)
		}
		for n := range frontier { // appending to one list must not reach another
			frontier[n] = append(frontier[n], 77)
		}
		for _, list := range frontier {
			if slices.Index(list, 77) != len(list)-1 {
				t.Fatalf("the lists of one answer share memory: %v", frontier)
			}
			clear(list)
		}
	}
}

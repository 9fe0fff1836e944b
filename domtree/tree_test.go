package domtree_test

import (
	"math"
	"math/rand"
	"slices"
	"testing"

	"burnish/api"
	"burnish/domtree"
)

// wayUp returns the indices that following idom from i leads to, i first, up to
// one that is its own element; if there is none, it goes round until it is long.
func wayUp(idom []int, i int) []int {
	way := []int{i}
	for range idom {
		if idom[i] == i {
			break
		}
		i = idom[i]
		way = append(way, i)
	}
	return way
}

// rootOf reports whether idom is a dominator tree by the document's definition, and its root.
func rootOf(idom []int) (int, bool) {
	var roots []int
	for i, up := range idom {
		if up != -1 && (up < 0 || up >= len(idom) || idom[up] == -1) {
			return 0, false
		}
		if up == i {
			roots = append(roots, i)
		}
	}
	if len(roots) != 1 {
		return 0, false
	}
	for i, up := range idom {
		if up != -1 && !slices.Contains(wayUp(idom, i), roots[0]) {
			return 0, false
		}
	}
	return roots[0], true
}

// expectNothing checks that the functions of dominator trees return nothing.
func expectNothing(t *testing.T, name string, idom []int) {
	t.Helper()
	depths, children, order := domtree.Depths(idom), domtree.Children(idom), domtree.Preorder(idom)
	if len(depths) != 0 || len(children) != 0 || len(order) != 0 {
		t.Errorf("%s: Depths %v, Children %v, Preorder %v", name, depths, children, order)
	}
	for a := -2; a <= len(idom)+1; a++ {
		for b := -2; b <= len(idom)+1; b++ {
			if common, dominates := domtree.CommonDominator(idom, a, b), domtree.Dominates(idom, a, b); common != -1 || dominates {
				t.Errorf("%s: CommonDominator of %d and %d is %d, Dominates is %v", name, a, b, common, dominates)
			}
		}
	}
}

// P8.2
func TestListsThatAreNoDominatorTrees(t *testing.T) {
	for name, idom := range map[string][]int{
		"empty":                    {},
		"nothing in it":            {-1, -1},
		"no root":                  {1, 0},
		"two roots":                {0, 0, 2},
		"two roots alone":          {0, 1},
		"element -2":               {0, -2},
		"least element":            {0, math.MinInt},
		"element n":                {0, 2},
		"greatest element":         {0, math.MaxInt},
		"first element n":          {1},
		"an index not in the tree": {0, 2, -1},
		"a circle of two":          {0, 2, 1},
		"a circle of three":        {2, 0, 1},
		"a way into a circle":      {0, 3, 1, 2, 1, 0},
	} {
		expectNothing(t, name, idom)
	}
	expectNothing(t, "nil", nil)
}

// P8.2
func TestATree(t *testing.T) {
	// 4 is the root, 1, 3 and 6 its children, 7 the child of 1, 2 and 5 the children of 6; 0 is not in the tree.
	idom := []int{-1, 4, 6, 4, 4, 6, 4, 1}
	if got, want := domtree.Depths(idom), []int{-1, 1, 2, 1, 0, 2, 1, 2}; !slices.Equal(got, want) {
		t.Errorf("Depths %v, want %v", got, want)
	}
	if got, want := domtree.Children(idom), [][]int{{}, {7}, {}, {}, {1, 3, 6}, {}, {2, 5}, {}}; !equalLists(got, want) {
		t.Errorf("Children %v, want %v", got, want)
	}
	if got, want := domtree.Preorder(idom), []int{4, 1, 7, 3, 6, 2, 5}; !slices.Equal(got, want) {
		t.Errorf("Preorder %v, want %v", got, want)
	}
	for _, c := range []struct{ a, b, common int }{
		{2, 5, 6}, {5, 2, 6}, {2, 6, 6}, {6, 2, 6}, {7, 5, 4}, {7, 7, 7}, {4, 7, 4}, {4, 4, 4}, {1, 3, 4},
		{0, 4, -1}, {4, 0, -1}, {0, 0, -1}, {-1, 4, -1}, {4, -1, -1}, {8, 4, -1}, {4, 8, -1}, {8, 8, -1}, {math.MinInt, math.MaxInt, -1},
	} {
		if got := domtree.CommonDominator(idom, c.a, c.b); got != c.common {
			t.Errorf("CommonDominator of %d and %d is %d, want %d", c.a, c.b, got, c.common)
		}
		if got, want := domtree.Dominates(idom, c.a, c.b), c.common == c.a && c.common != -1; got != want {
			t.Errorf("Dominates(%d, %d) is %v", c.a, c.b, got)
		}
	}
}

// P8.2
func TestSmallestTrees(t *testing.T) {
	for _, idom := range [][]int{{0}, {-1, 1}, {0, -1, -1}} {
		root, _ := rootOf(idom)
		depths, children, order := domtree.Depths(idom), domtree.Children(idom), domtree.Preorder(idom)
		if len(depths) != len(idom) || depths[root] != 0 || len(children) != len(idom) || len(children[root]) != 0 || !slices.Equal(order, []int{root}) {
			t.Errorf("%v: Depths %v, Children %v, Preorder %v", idom, depths, children, order)
		}
		if !domtree.Dominates(idom, root, root) || domtree.CommonDominator(idom, root, root) != root {
			t.Errorf("%v: the root does not dominate itself", idom)
		}
	}
}

// preorder returns the node and the preorders of its children's subtrees.
func preorder(children [][]int, node int) []int {
	order := []int{node}
	for _, child := range children[node] {
		order = append(order, preorder(children, child)...)
	}
	return order
}

// expectTree checks the answers for a dominator tree by the definitions.
func expectTree(t *testing.T, idom []int, root int) {
	t.Helper()
	depths, children := slices.Repeat([]int{-1}, len(idom)), make([][]int, len(idom))
	ways := make([][]int, len(idom)) // empty for an index that is not in the tree
	for i, up := range idom {
		if up == -1 {
			continue
		}
		ways[i] = wayUp(idom, i)
		depths[i] = len(ways[i]) - 1
		if up != i {
			children[up] = append(children[up], i)
		}
	}
	if got := domtree.Depths(idom); !slices.Equal(got, depths) {
		t.Fatalf("%v: Depths %v, want %v", idom, got, depths)
	}
	if got := domtree.Children(idom); !equalLists(got, children) {
		t.Fatalf("%v: Children %v, want %v", idom, got, children)
	}
	if got, want := domtree.Preorder(idom), preorder(children, root); !slices.Equal(got, want) {
		t.Fatalf("%v: Preorder %v, want %v", idom, got, want)
	}
	for a := range idom {
		for b := range idom {
			common := -1
			if at := slices.IndexFunc(ways[a], func(up int) bool { return slices.Contains(ways[b], up) }); at >= 0 {
				common = ways[a][at]
			}
			if got := domtree.CommonDominator(idom, a, b); got != common {
				t.Fatalf("%v: CommonDominator of %d and %d is %d, want %d", idom, a, b, got, common)
			}
			if got, want := domtree.Dominates(idom, a, b), slices.Contains(ways[b], a); got != want {
				t.Fatalf("%v: Dominates(%d, %d) is %v", idom, a, b, got)
			}
		}
	}
}

// P8.2
func TestRandomLists(t *testing.T) {
	r := rand.New(rand.NewSource(4))
	trees := 0
	for range 20000 {
		n := 1 + r.Intn(6)
		idom := make([]int, n)
		for i := range idom {
			idom[i] = r.Intn(n+1) - 1
			if r.Intn(30) == 0 {
				idom[i] = r.Intn(2*n) - n
			}
		}
		root, ok := rootOf(idom)
		if !ok {
			expectNothing(t, "a random list", idom)
			continue
		}
		trees++
		expectTree(t, idom, root)
	}
	if trees < 1000 {
		t.Errorf("only %d lists were trees", trees)
	}
}

// P8.2, P8.5
func TestTreesOfRandomGraphs(t *testing.T) {
	randomGraphs(5, func(g api.Graph) {
		expectTree(t, domtree.Build(g, 0), 0)
		expectTree(t, domtree.PostDominators(g), len(g.Succs))
	})
}

// Rule 1: a tree need not come from a graph, and can have more than MaxNodes levels
func TestDeepTrees(t *testing.T) {
	const n = 1 << 20
	up, down := make([]int, n), make([]int, n)
	for i := range n {
		up[i], down[i] = max(i-1, 0), min(i+1, n-1)
	}
	upward, downward := domtree.Depths(up), domtree.Depths(down)
	first, last := domtree.Preorder(up), domtree.Preorder(down)
	for i := range n {
		if upward[i] != i || downward[i] != n-1-i || first[i] != i || last[i] != n-1-i {
			t.Fatalf("index %d: depths %d and %d, places %d and %d", i, upward[i], downward[i], first[i], last[i])
		}
	}
	if !domtree.Dominates(up, 0, n-1) || domtree.Dominates(up, n-1, 0) || domtree.CommonDominator(down, 0, 5) != 5 || len(domtree.Children(down)) != n {
		t.Error("Dominates, CommonDominator or Children is wrong")
	}
	up[0] = n - 1
	if domtree.Depths(up) != nil || domtree.Preorder(up) != nil || domtree.Dominates(up, 1, 2) {
		t.Error("a circle is a tree")
	}
}

// Rules 4 and 5
func TestTreesAreNotChanged(t *testing.T) {
	idom := []int{-1, 4, 6, 4, 4, 6, 4, 1}
	before := slices.Clone(idom)
	for range 2 {
		depths, children, order := domtree.Depths(idom), domtree.Children(idom), domtree.Preorder(idom)
		common, dominates := domtree.CommonDominator(idom, 2, 5), domtree.Dominates(idom, 4, 5)
		if !slices.Equal(idom, before) {
			t.Fatalf("the list is now %v", idom)
		}
		if depths[5] != 2 || !slices.Equal(order, []int{4, 1, 7, 3, 6, 2, 5}) || common != 6 || !dominates {
			t.Fatalf("Depths %v, Preorder %v, CommonDominator %d, Dominates %v", depths, order, common, dominates)
		}
		if !equalLists(children, [][]int{{}, {7}, {}, {}, {1, 3, 6}, {}, {2, 5}, {}}) {
			t.Fatalf("Children %v", children)
		}
		for i := range children { // appending to one list must not reach another
			children[i] = append(children[i], 77)
		}
		for _, list := range children {
			if slices.Index(list, 77) != len(list)-1 {
				t.Fatalf("the lists of one answer share memory: %v", children)
			}
			clear(list)
		}
		clear(depths)
		clear(order)
	}
}

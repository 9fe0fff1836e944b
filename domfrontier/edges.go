package domfrontier

import (
	"iter"
	"math"
	"slices"

	"burnish/api"
)

// edges holds the edges between the nodes of a tree, by the places of both nodes in
// its preorder. To find those that leave a range of places, it halves the places
// time and again: part 1 is all of them, the halves of part i are the parts 2i and
// 2i+1, and the last parts are the single places.
type edges struct {
	order           []int   // the node at each place
	targets         [][]int // where the edges from each place lead, sorted; there are a power of two
	least, greatest []int   // the least and the greatest target of each part
}

func newEdges(g api.Graph, t *tree) *edges {
	places := 1
	for places < len(t.order) {
		places *= 2
	}
	e := &edges{order: t.order, targets: make([][]int, places), least: make([]int, 2*places), greatest: make([]int, 2*places)}
	for place, node := range t.order {
		for _, succ := range g.Succs[node] {
			if t.has(succ) {
				e.targets[place] = append(e.targets[place], t.first[succ])
			}
		}
		slices.Sort(e.targets[place])
	}
	for part := 2*places - 1; part >= 1; part-- {
		e.update(part)
	}
	return e
}

// update sets the least and the greatest target of a part from its edges or its halves.
func (e *edges) update(part int) {
	if place := part - len(e.targets); place < 0 {
		e.least[part] = min(e.least[2*part], e.least[2*part+1])
		e.greatest[part] = max(e.greatest[2*part], e.greatest[2*part+1])
	} else if targets := e.targets[place]; len(targets) > 0 {
		e.least[part], e.greatest[part] = targets[0], targets[len(targets)-1]
	} else {
		e.least[part], e.greatest[part] = math.MaxInt, math.MinInt // no edge leaves any range
	}
}

// take removes the edges that lead from the places in [first, end) to others or to
// first, and yields the nodes that they lead to: if the places are those that a
// node dominates, the elements of its frontier that were not taken before.
func (e *edges) take(first, end int) iter.Seq[int] {
	return func(yield func(int) bool) {
		var search func(part, from, size int) bool
		search = func(part, from, size int) bool {
			if from >= end || from+size <= first || e.least[part] > first && e.greatest[part] < end {
				return true
			}
			goOn := true
			if size == 1 {
				for _, target := range e.cut(from, first, end) {
					goOn = goOn && yield(e.order[target])
				}
			} else {
				half := size / 2
				goOn = search(2*part, from, half) && search(2*part+1, from+half, half)
			}
			e.update(part)
			return goOn
		}
		search(1, 0, len(e.targets))
	}
}

// cut removes the edges from a place to first and to places outside of [first, end), and returns their targets.
func (e *edges) cut(place, first, end int) []int {
	targets := e.targets[place]
	low, _ := slices.BinarySearch(targets, first+1)
	high, _ := slices.BinarySearch(targets, end)
	e.targets[place] = targets[low:high]
	return slices.Concat(targets[:low], targets[high:])
}

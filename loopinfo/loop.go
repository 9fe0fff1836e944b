package loopinfo

import (
	"slices"

	"burnish/api"
)

// collect returns the blocks of a loop: its header, and what leads to its latches without passing the header.
func collect(preds [][]int, header int, latches []int) map[int]bool {
	blocks := map[int]bool{header: true}
	var waiting []int
	add := func(nodes []int) {
		for _, node := range nodes {
			if !blocks[node] {
				blocks[node] = true
				waiting = append(waiting, node)
			}
		}
	}
	add(latches)
	for len(waiting) > 0 {
		last := len(waiting) - 1
		node := waiting[last]
		waiting = waiting[:last]
		add(preds[node])
	}
	return blocks
}

// exits returns those of some blocks that have an edge to a node that is not one of them, sorted.
func exits(g api.Graph, blocks map[int]bool) []int {
	var exits []int
	for block := range blocks {
		if slices.ContainsFunc(g.Succs[block], func(succ int) bool { return !blocks[succ] }) {
			exits = append(exits, block)
		}
	}
	slices.Sort(exits)
	return exits
}

// nest sets the parent and the depth of each loop. Of two loops that contain a node,
// one contains the other and has more blocks. So if they are taken in turn, the
// largest first, the last loop that contained a header is the parent of its loop.
func nest(loops []api.Loop, nodes int) {
	order := make([]int, len(loops))
	for i := range order {
		order[i] = i
	}
	slices.SortFunc(order, func(a, b int) int { return len(loops[b].Blocks) - len(loops[a].Blocks) })
	latest := slices.Repeat([]int{none}, nodes) // the last loop that contained each node
	for _, i := range order {
		loop := &loops[i]
		loop.Parent, loop.Depth = latest[loop.Header], 1
		if loop.Parent != none {
			loop.Depth = loops[loop.Parent].Depth + 1
		}
		for _, block := range loop.Blocks {
			latest[block] = i
		}
	}
}

package worklist

// heap is the order of a priority queue: a binary tree whose node i has the
// children 2i+1 and 2i+2, where no child comes before its parent.
type heap struct {
	items  []int
	before func(a, b int) bool
}

func (h *heap) push(i int) {
	h.items = append(h.items, i)
	h.rise(len(h.items) - 1)
}

func (h *heap) pop() int {
	first, last := h.items[0], len(h.items)-1
	h.items[0] = h.items[last]
	h.items = h.items[:last]
	h.sink(0)
	return first
}

func (h *heap) size() int {
	return len(h.items)
}

// rise swaps a node with its parent for as long as it comes before that.
func (h *heap) rise(node int) {
	for node > 0 {
		parent := (node - 1) / 2
		if !h.before(h.items[node], h.items[parent]) {
			return
		}
		h.swap(node, parent)
		node = parent
	}
}

// sink swaps a node with its first child for as long as that comes before it.
func (h *heap) sink(node int) {
	for {
		first := node
		for child := 2*node + 1; child <= 2*node+2 && child < len(h.items); child++ {
			if h.before(h.items[child], h.items[first]) {
				first = child
			}
		}
		if first == node {
			return
		}
		h.swap(node, first)
		node = first
	}
}

func (h *heap) swap(i, j int) {
	h.items[i], h.items[j] = h.items[j], h.items[i]
}

package scc

import (
	"sort"
)

// minHeap has the methods by which package heap finds the least of some integers.
type minHeap struct {
	sort.IntSlice
}

// Push adds x, an int, at the end.
func (h *minHeap) Push(x any) {
	h.IntSlice = append(h.IntSlice, x.(int))
}

// Pop removes the last integer.
func (h *minHeap) Pop() any {
	last := h.Len() - 1
	x := h.IntSlice[last]
	h.IntSlice = h.IntSlice[:last]
	return x
}

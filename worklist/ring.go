package worklist

// ring is the order of a first-in-first-out queue. It has a slot for each
// integer that the queue may hold, so that it is never too full.
type ring struct {
	slots []int
	head  int // the slot of the integer that was pushed first
	count int
}

func (r *ring) push(i int) {
	r.slots[(r.head+r.count)%len(r.slots)] = i
	r.count++
}

func (r *ring) pop() int {
	i := r.slots[r.head]
	r.head = (r.head + 1) % len(r.slots)
	r.count--
	return i
}

func (r *ring) size() int {
	return r.count
}

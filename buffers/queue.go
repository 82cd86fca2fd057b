package buffers

// buffer is what the cache has of a block.
type buffer struct {
	block   int
	content string
	dirty   bool // it was put, and not written since
	pinned  bool
	used    int // which of all uses was its last
	place   int // where it stands in the queue
}

func (f *buffer) isDirty() bool  { return f.dirty }
func (f *buffer) isPinned() bool { return f.pinned }

// queue is a heap of buffers whose first one gives way first. Pinned ones stand behind all others, so that the first one is pinned only if all are.
type queue []*buffer

func (q queue) Len() int { return len(q) }

func (q queue) Less(i, j int) bool {
	if q[i].pinned != q[j].pinned {
		return q[j].pinned
	}
	return q[i].used < q[j].used
}

func (q queue) Swap(i, j int) {
	q[i], q[j] = q[j], q[i]
	q[i].place, q[j].place = i, j
}

// Push takes one more buffer in at the end, for the heap to lift.
func (q *queue) Push(x any) {
	f := x.(*buffer)
	f.place = len(*q)
	*q = append(*q, f)
}

// Pop hands the last buffer out, which the heap has moved there.
func (q *queue) Pop() any {
	last := len(*q) - 1
	f := (*q)[last]
	(*q)[last] = nil // so that what gave way is not kept by the list
	*q = (*q)[:last]
	return f
}

package timers

// order tells whether one slot comes ahead of another.
type order func(a, b int) bool

// lower is the order of free slots: the least one is taken first.
func lower(a, b int) bool { return a < b }

// insert puts a slot into a heap.
func insert(heap []int, slot int, ahead order) []int {
	heap = append(heap, slot)
	rise(heap, len(heap)-1, ahead)
	return heap
}

// remove takes away what lies at a place of a heap.
func remove(heap []int, place int, ahead order) []int {
	last := len(heap) - 1
	heap[place] = heap[last]
	heap = heap[:last]
	if place < last {
		// What came from the end may belong on either side of the place: one of these two moves nothing.
		sink(heap, place, ahead)
		rise(heap, place, ahead)
	}
	return heap
}

func rise(heap []int, place int, ahead order) {
	for place > 0 {
		above := (place - 1) / 2
		if !ahead(heap[place], heap[above]) {
			return
		}
		heap[place], heap[above] = heap[above], heap[place]
		place = above
	}
}

func sink(heap []int, place int, ahead order) {
	for {
		first := place
		for below := 2*place + 1; below <= 2*place+2 && below < len(heap); below++ {
			if ahead(heap[below], heap[first]) {
				first = below
			}
		}
		if first == place {
			return
		}
		heap[place], heap[first] = heap[first], heap[place]
		place = first
	}
}

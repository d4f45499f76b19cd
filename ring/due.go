package ring

// timed is an element with its time, and the number of elements that were added before it.
type timed[T any] struct {
	at, order int
	x         T
}

// Due is a queue ordered by time, kept as a heap.
type Due[T any] struct {
	heap  []timed[T]
	added int
}

// sooner reports whether element i is due before element j.
func (d *Due[T]) sooner(i, j int) bool {
	a, b := d.heap[i], d.heap[j]
	return a.at < b.at || a.at == b.at && a.order < b.order
}

func (d *Due[T]) swap(i, j int) {
	d.heap[i], d.heap[j] = d.heap[j], d.heap[i]
}

// Len returns the number of elements.
func (d *Due[T]) Len() int {
	if d == nil {
		return 0
	}
	return len(d.heap)
}

// Put adds an element that is due at a time.
func (d *Due[T]) Put(at int, x T) {
	if d == nil {
		return
	}
	d.heap = append(d.heap, timed[T]{at, d.added, x})
	d.added++
	for i := len(d.heap) - 1; i > 0 && d.sooner(i, (i-1)/2); i = (i - 1) / 2 {
		d.swap(i, (i-1)/2)
	}
}

// Next removes the element that is due first, and returns it; false: none is due by now.
func (d *Due[T]) Next(now int) (T, bool) {
	var none T
	if d.Len() == 0 || d.heap[0].at > now {
		return none, false
	}
	x := d.heap[0].x
	last := len(d.heap) - 1
	d.swap(0, last)
	d.heap[last] = timed[T]{}
	d.heap = d.heap[:last]
	d.sink()
	return x, true
}

// sink moves the first element down to its place.
func (d *Due[T]) sink() {
	for i := 0; ; {
		least := i
		for child := 2*i + 1; child <= 2*i+2 && child < len(d.heap); child++ {
			if d.sooner(child, least) {
				least = child
			}
		}
		if least == i {
			return
		}
		d.swap(i, least)
		i = least
	}
}

package sat

const (
	// firstStep is what a variable's score is raised by at first; each time it is a fadeth more.
	firstStep, fadeth = 1 << 10, 32
	// highest is how high scores may be; once one is higher, all are lowered by so many bits.
	highest, lowered = 1 << 60, 40
)

// order is variables in a heap, in which none has a higher score than the one above it: those that led to conflicts lately come
// first.
type order struct {
	scores []int64 // of each variable
	heap   []int32
	places []int32 // of each variable: where it stands in the heap, and 1; 0, if it does not
	step   int64
}

func newOrder(n int) order {
	return order{scores: make([]int64, n), places: make([]int32, n), step: firstStep}
}

// enter puts a variable into the heap, if it is not there.
func (o *order) enter(v int) {
	if o.places[v] == 0 {
		o.heap = append(o.heap, int32(v))
		o.up(len(o.heap) - 1)
	}
}

// take takes the first variable out; false, if there is none.
func (o *order) take() (int, bool) {
	if len(o.heap) == 0 {
		return 0, false
	}
	v, end := o.heap[0], len(o.heap)-1
	o.places[v] = 0
	o.heap[0] = o.heap[end]
	o.heap = o.heap[:end]
	if end > 0 {
		o.down(0)
	}
	return int(v), true
}

// raise makes a variable's score higher.
func (o *order) raise(v int) {
	o.scores[v] += o.step
	if o.scores[v] > highest {
		o.lower()
	}
	if o.places[v] > 0 {
		o.up(int(o.places[v]) - 1)
	}
}

// fade makes all scores count less, as those from now on are raised by more.
func (o *order) fade() { o.step += o.step / fadeth }

// lower makes room for higher scores. Some are the same then, so that the heap is made anew.
func (o *order) lower() {
	o.step >>= lowered
	for v := range o.scores {
		o.scores[v] >>= lowered
	}
	for at := len(o.heap)/2 - 1; at >= 0; at-- {
		o.down(at)
	}
}

// ahead tells whether a comes ahead of b.
func (o *order) ahead(a, b int32) bool {
	if o.scores[a] != o.scores[b] {
		return o.scores[a] > o.scores[b]
	}
	return a < b
}

func (o *order) put(at int, v int32) {
	o.heap[at] = v
	o.places[v] = int32(at + 1)
}

func (o *order) up(at int) {
	v := o.heap[at]
	for at > 0 && o.ahead(v, o.heap[(at-1)/2]) {
		o.put(at, o.heap[(at-1)/2])
		at = (at - 1) / 2
	}
	o.put(at, v)
}

func (o *order) down(at int) {
	v := o.heap[at]
	for next := 2*at + 1; next < len(o.heap); next = 2*at + 1 {
		if next+1 < len(o.heap) && o.ahead(o.heap[next+1], o.heap[next]) {
			next++
		}
		if !o.ahead(o.heap[next], v) {
			break
		}
		o.put(at, o.heap[next])
		at = next
	}
	o.put(at, v)
}

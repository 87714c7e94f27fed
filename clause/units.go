package clause

// known has, for each variable of which a literal is known to hold, that literal.
type known map[int]int

// put makes it known that l holds; false, if its other one does.
func (k known) put(l int) bool {
	if k.fails(l) {
		return false
	}
	k[variable(l)] = l
	return true
}

func (k known) holds(l int) bool { return k[variable(l)] == l }
func (k known) fails(l int) bool { return k[variable(l)] == -l }

// follower finds what follows from clauses by those of one literal.
type follower struct {
	clauses [][]int       // clean ones
	uses    map[int][]int // in which of them a literal stands
	open    []int         // how many literals of each are not the other one of a literal that was gone on from
	known   known
	found   []int // what is known, in the order in which it was found
}

// Units: P5.5. What is found is the same in whatever order it is, as nothing that was found hinders another.
func Units(f Formula) ([]int, bool) {
	if !Right(f) {
		return nil, false
	}
	w := newFollower(f)
	for at := range w.clauses {
		if !w.look(at) {
			return nil, false
		}
	}
	for next := 0; next < len(w.found); next++ {
		if !w.goOn(w.found[next]) {
			return nil, false
		}
	}
	return risingBy(variable, w.found...), true
}

// newFollower leaves out clauses that say nothing: they have two literals as long as neither is known, and then one holds.
func newFollower(f Formula) *follower {
	w := &follower{uses: map[int][]int{}, known: known{}}
	for _, c := range f.Clauses {
		clean, ok := Clean(c)
		if !ok {
			continue
		}
		for _, l := range clean {
			w.uses[l] = append(w.uses[l], len(w.clauses))
		}
		w.clauses = append(w.clauses, clean)
		w.open = append(w.open, len(clean))
	}
	return w
}

// goOn counts the clauses in which the other one of l stands down; false, if one of them does not hold. Counting makes what
// is done no more than the clauses have literals, however long they are.
func (w *follower) goOn(l int) bool {
	for _, at := range w.uses[-l] {
		w.open[at]--
		if !w.look(at) {
			return false
		}
	}
	return true
}

// look finds what a clause that has but one literal left tells; false, if it has none.
func (w *follower) look(at int) bool {
	if w.open[at] > 1 {
		return true
	}
	for _, l := range w.clauses[at] {
		if w.known.fails(l) {
			continue
		}
		if !w.known.holds(l) {
			w.known.put(l)
			w.found = append(w.found, l)
		}
		return true
	}
	return false
}

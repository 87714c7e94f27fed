package sat

import "slices"

// What is noted of a variable while a clause is learnt.
const (
	fresh    uint8 = iota
	met            // a clause on the way has it
	needless       // it was told by those that were met
	needed         // it was not, as far as was looked
)

// deep is how many clauses deep it is looked whether a literal is needless.
const deep = 100

// notes are made while a clause is learnt.
type notes struct {
	marks   []uint8 // of each variable
	marked  []int   // the variables of which something is noted
	counted []int32 // of each level: the number of the clause in whose spread it was counted last
}

func newNotes(n int) notes { return notes{marks: make([]uint8, n), counted: make([]int32, n)} }

func (n *notes) mark(v int, as uint8) {
	if n.marks[v] == fresh {
		n.marks[v] = as
		n.marked = append(n.marked, v)
	}
}

func (n *notes) unmark() {
	for _, v := range n.marked {
		n.marks[v] = fresh
	}
	n.marked = n.marked[:0]
}

// learn makes a clause of a conflict, takes decisions back till just one literal of it is left, and tells that.
func (s *solver) learn(fails int) {
	if !s.spend() {
		return
	}
	lits := s.shorter(s.cause(fails))
	s.unmark()
	r := row{lits: lits, spread: s.spread(lits)}
	s.back(s.second(lits))
	s.tell(lits[0], s.write(r))
	s.fade()
	s.patience--
}

// cause is a clause that follows, all of whose literals fail, and just the first one since the last decision. It is what fails,
// in which what was told last is put out by the clause that told it, over and over. What was told ahead of all decisions fails
// by clauses of one literal anyway, and is left out.
func (s *solver) cause(fails int) []int {
	lits := []int{0}
	open := 0
	for last := len(s.trail) - 1; ; last-- {
		for _, l := range s.rows[fails].lits {
			v := variable(l)
			if s.marks[v] != fresh || s.levels[v] == 0 {
				continue
			}
			s.mark(v, met)
			s.raise(v)
			if int(s.levels[v]) == len(s.cuts) {
				open++
			} else {
				lits = append(lits, l)
			}
		}
		for s.marks[variable(s.trail[last])] == fresh {
			last--
		}
		if open--; open == 0 {
			lits[0] = -s.trail[last]
			return lits
		}
		fails = int(s.whys[variable(s.trail[last])])
	}
}

// shorter leaves out the literals that are needless.
func (s *solver) shorter(lits []int) []int {
	short := lits[:1]
	for _, l := range lits[1:] {
		if !s.needless(variable(l), deep) {
			short = append(short, l)
		}
	}
	return slices.Clone(short)
}

// needless tells whether a variable was told by those that were met alone, through no more than so many clauses.
func (s *solver) needless(v, left int) bool {
	if s.whys[v] == none || left == 0 {
		return false
	}
	for _, l := range s.rows[s.whys[v]].lits {
		u := variable(l)
		if u == v || s.levels[u] == 0 || s.marks[u] == met || s.marks[u] == needless {
			continue
		}
		if s.marks[u] == needed || !s.needless(u, left-1) {
			s.mark(v, needed)
			return false
		}
	}
	s.mark(v, needless)
	return true
}

// spread is how many levels literals were told at.
func (s *solver) spread(lits []int) int {
	n, now := 0, int32(len(s.rows))
	for _, l := range lits {
		if level := s.levels[variable(l)]; s.counted[level] != now {
			s.counted[level] = now
			n++
		}
	}
	return n
}

// second brings the literal that was told at the highest level, but for the first one, to the second place, and tells the level.
func (s *solver) second(lits []int) int {
	level := int32(0)
	for i, l := range lits[1:] {
		if s.levels[variable(l)] > level {
			level = s.levels[variable(l)]
			lits[1], lits[i+1] = lits[i+1], lits[1]
		}
	}
	return int(level)
}

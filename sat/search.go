package sat

import (
	"math/bits"
	"slices"

	"proofmark/clause"
)

const (
	// none is the number of no clause.
	none = -1
	// pace is how many conflicts the shortest try lasts. With it a formula of 12 variables is told within 2^20 fuel: a try that
	// is not broken off takes less than 2^13 steps, as with each one more is told at some level, and as much at all ahead of it.
	pace = 64
)

// solver looks for a model: it decides variables, follows what clauses tell then, and learns a clause of each conflict.
type solver struct {
	purse
	book
	order
	notes
	vars     int
	truths   []int8  // of the literal l at vars + l: 1, it holds; -1, it fails; 0, it is not told
	levels   []int32 // of each variable that is told: how many decisions there were then
	whys     []int32 // of each variable that is told: the clause that told it, or none
	habits   []bool  // of each variable: what it was told last
	trail    []int   // the literals that hold, in the order in which they were told
	cuts     []int   // how long the trail was ahead of each decision
	followed int     // how many literals of the trail were followed
	tries    int     // how many tries were broken off
	patience int     // how many conflicts more this one may have
}

// purse is the fuel; it is dry once more was asked for than there is.
type purse struct {
	fuel, used int
	dry        bool
}

// spend uses one of the fuel; false, if none is left.
func (p *purse) spend() bool {
	if p.used == p.fuel {
		p.dry = true
		return false
	}
	p.used++
	return true
}

// variable is that of a literal.
func variable(l int) int { return max(l, -l) }

// newSolver leaves out clauses that say nothing, and decides only variables that are in others.
func newSolver(f clause.Formula, fuel int) *solver {
	n := f.Vars + 1
	s := &solver{
		purse:    purse{fuel: fuel},
		book:     newBook(),
		order:    newOrder(n),
		notes:    newNotes(n),
		vars:     f.Vars,
		truths:   make([]int8, 2*n),
		levels:   make([]int32, n),
		whys:     make([]int32, n),
		habits:   make([]bool, n),
		patience: pace,
	}
	for _, c := range f.Clauses {
		lits, ok := clause.Clean(c)
		if !ok {
			continue
		}
		s.write(row{lits: lits})
		for _, l := range lits {
			s.enter(variable(l))
		}
	}
	s.given = len(s.rows)
	return s
}

// search goes on till it is known whether there is a model, or there is no fuel.
func (s *solver) search() uint8 {
	if !s.begin() {
		return Unsat
	}
	for {
		fails := s.follow()
		switch {
		case s.dry:
			return Unknown
		case fails != none && len(s.cuts) == 0:
			return Unsat
		case fails != none:
			s.learn(fails)
		case s.patience <= 0:
			s.anew()
		case !s.decide():
			return Sat
		}
	}
}

// begin tells what the formula's clauses of one literal do; false, if two of them are at odds, or a clause is empty: that is
// looked for ahead, as no fuel is needed for it.
func (s *solver) begin() bool {
	if slices.ContainsFunc(s.rows, func(r row) bool { return len(r.lits) == 0 }) {
		return false
	}
	for at, r := range s.rows {
		if s.dry || len(r.lits) > 1 || s.truth(r.lits[0]) > 0 {
			continue
		}
		if s.truth(r.lits[0]) < 0 {
			return false
		}
		s.tell(r.lits[0], at)
	}
	return true
}

func (s *solver) truth(l int) int8 { return s.truths[s.vars+l] }

// tell makes it known that l holds, by a clause, or by none.
func (s *solver) tell(l, why int) {
	if !s.spend() {
		return
	}
	s.truths[s.vars+l], s.truths[s.vars-l] = 1, -1
	s.levels[variable(l)] = int32(len(s.cuts))
	s.whys[variable(l)] = int32(why)
	s.trail = append(s.trail, l)
}

// decide tells a variable what it was told last; false, if all are told.
func (s *solver) decide() bool {
	for {
		v, ok := s.take()
		if !ok {
			return false
		}
		if s.truth(v) != 0 {
			continue
		}
		s.cuts = append(s.cuts, len(s.trail))
		if s.habits[v] {
			s.tell(v, none)
		} else {
			s.tell(-v, none)
		}
		return true
	}
}

// back takes all decisions back but so many, and what was told since.
func (s *solver) back(level int) {
	if level == len(s.cuts) {
		return
	}
	cut := s.cuts[level]
	for _, l := range s.trail[cut:] {
		s.truths[s.vars+l], s.truths[s.vars-l] = 0, 0
		s.habits[variable(l)] = l > 0
		s.enter(variable(l))
	}
	s.trail, s.cuts, s.followed = s.trail[:cut], s.cuts[:level], cut
}

// anew breaks a try off. Clauses are dropped just here, where nobody asks why anything was told.
func (s *solver) anew() {
	s.back(0)
	s.tries++
	s.patience = pace * luby(s.tries+1)
	s.thin()
}

// luby is the n-th of 1 1 2 1 1 2 4 1 1 2 1 1 2 4 8 ..: most tries are short, but one is as long as need be.
func luby(n int) int {
	for {
		half := 1 << (bits.Len(uint(n)) - 1)
		if n == 2*half-1 {
			return half
		}
		n -= half - 1
	}
}

package rup

import "proofmark/clause"

// none is where no clause is.
const none = -1

// A literal goes by a number of its own here: 2 k or 2 k + 1, of the variable that is the k-th to be met. The other one differs
// in the lowest bit. So formulas of few clauses over very many variables are cheap.
//
// book is clauses, and what follows from them by those of one literal. What stands on the trail up to sure holds for good, what
// stands there behind it holds as long as some clause is denied. Of the clauses, those from seen on, and those that are out,
// are passed by.
type book struct {
	vars    int
	numbers []int32 // of each variable, its number and 1; 0 if it has not been met
	clauses []line
	brief   []int   // the clauses of fewer than two literals, which none watches
	watches [][]int // of each literal, the clauses that are watched by it
	holds   []bool  // of each literal
	why     []int   // of each variable that is told, the clause that told it, or none
	trail   []int   // the literals that hold, as they were told
	looked  int     // how much of the trail was followed
	sure    int
	seen    int
	lost    bool // what is sure fails some clause: there is no model
}

// line is a clause of which nothing is sure. It is watched by its first two literals: as long as neither fails, it tells
// nothing. Of those behind them, next is where to look first for another one, as those ahead of it failed lately.
type line struct {
	lits []int
	next int
	out  bool
}

// open is a book of a formula that is right, in which all that follows from it by clauses of one literal is sure.
func open(f clause.Formula) *book {
	b := &book{vars: f.Vars, numbers: make([]int32, f.Vars+1)}
	for _, c := range f.Clauses {
		b.take(c)
	}
	return b
}

// has tells whether each of the literals is of a variable of the formula's.
func (b *book) has(lits []int) bool {
	for _, l := range lits {
		if l == 0 || l > b.vars || l < -b.vars {
			return false
		}
	}
	return true
}

// literal is the number by which l goes.
func (b *book) literal(l int) int {
	v := max(l, -l)
	if b.numbers[v] == 0 {
		b.why = append(b.why, none)
		b.watches = append(b.watches, nil, nil)
		b.holds = append(b.holds, false, false)
		b.numbers[v] = int32(len(b.why))
	}
	k := 2 * (int(b.numbers[v]) - 1)
	if l < 0 {
		k++
	}
	return k
}

// left is the literals of c of which nothing is sure, each once; nothing and false, if it says nothing, or surely holds.
func (b *book) left(c []int) ([]int, bool) {
	clean, says := clause.Clean(c)
	if !says {
		return nil, false
	}
	lits := clean[:0]
	for _, l := range clean {
		k := b.literal(l)
		if b.holds[k] {
			return nil, false
		}
		if !b.holds[k^1] {
			lits = append(lits, k)
		}
	}
	return lits, true
}

// take makes c hold for good, and so all that follows.
func (b *book) take(c []int) {
	lits, says := b.left(c)
	switch {
	case !says || b.lost:
	case len(lits) == 0:
		b.lost = true
	case len(lits) == 1:
		b.seen = len(b.clauses)
		b.tell(lits[0], none)
		b.lost = b.follow() != none
		b.sure = len(b.trail)
	default:
		b.write(lits)
	}
}

// write puts a clause behind the others, and tells its number.
func (b *book) write(lits []int) int {
	at := len(b.clauses)
	b.clauses = append(b.clauses, line{lits: lits, next: 2})
	if len(lits) < 2 {
		b.brief = append(b.brief, at)
		return at
	}
	for _, k := range lits[:2] {
		b.watches[k] = append(b.watches[k], at)
	}
	return at
}

// follows tells whether c follows, which has literals of the formula's variables alone.
func (b *book) follows(c []int) bool {
	lits, says := b.left(c)
	if !says || b.lost {
		return true
	}
	b.seen = len(b.clauses)
	fails := b.deny(lits)
	b.forget()
	return fails != none
}

func (b *book) tell(k, why int) {
	b.holds[k] = true
	b.why[k/2] = why
	b.trail = append(b.trail, k)
}

// forget takes back all that is not sure.
func (b *book) forget() {
	for _, k := range b.trail[b.sure:] {
		b.holds[k] = false
	}
	b.trail = b.trail[:b.sure]
	b.looked = b.sure
}

// deny tells what the clauses tell if none of lits holds, of which nothing is known; the number of a clause that fails then, or
// none.
func (b *book) deny(lits []int) int {
	for _, k := range lits {
		b.tell(k^1, none)
	}
	for _, at := range b.brief {
		c := &b.clauses[at]
		if at >= b.seen || c.out {
			continue
		}
		if len(c.lits) == 0 || b.holds[c.lits[0]^1] {
			return at
		}
		if !b.holds[c.lits[0]] {
			b.tell(c.lits[0], at)
		}
	}
	return b.follow()
}

package sat

import (
	"cmp"
	"slices"
)

const (
	// few is how many levels a clause may be spread over that is never dropped.
	few = 2
	// room is how many other clauses are learnt till half of them are dropped; each time it is so many more.
	room, moreRoom = 2000, 300
)

// book is clauses: the formula's, and then those that were learnt. One of two literals or more is watched by the first two of
// them: as long as neither fails, it tells nothing.
type book struct {
	rows    []row
	given   int // how many are the formula's
	watches map[int][]watch
	extra   []int // the clauses that may be dropped
	room    int   // how many of these there may be
}

// row is a clause. Of one that was learnt, spread is how many levels its literals were told at then. Of the literals behind the
// first two, next is where to look first for one to be watched by: those ahead of it failed lately, so that a long clause whose
// literals fail one by one is not gone through from the first one on each time.
type row struct {
	lits         []int
	spread, next int
	dropped      bool
}

// watch is the number of a clause, and a literal of it: if this holds, the clause need not be looked at.
type watch struct{ at, other int }

func newBook() book { return book{watches: map[int][]watch{}, room: room} }

// write puts a clause behind the others, and tells its number.
func (b *book) write(r row) int {
	at := len(b.rows)
	b.rows = append(b.rows, r)
	if len(r.lits) > 1 {
		b.watch(r.lits[0], watch{at, r.lits[1]})
		b.watch(r.lits[1], watch{at, r.lits[0]})
	}
	if r.spread > few {
		b.extra = append(b.extra, at)
	}
	return at
}

func (b *book) watch(l int, w watch) { b.watches[l] = append(b.watches[l], w) }

// thin drops half of the clauses that may be dropped, if there are too many: those that are spread wider, then longer ones, then
// older ones. They stay in the book, as a proof needs them.
func (b *book) thin() {
	if len(b.extra) < b.room {
		return
	}
	b.room += moreRoom
	slices.SortFunc(b.extra, func(p, q int) int {
		x, y := b.rows[p], b.rows[q]
		return cmp.Or(cmp.Compare(x.spread, y.spread), cmp.Compare(len(x.lits), len(y.lits)), cmp.Compare(q, p))
	})
	half := len(b.extra) / 2
	for _, at := range b.extra[half:] {
		b.rows[at].dropped = true
	}
	b.extra = b.extra[:half]
}

// follow tells what clauses tell that have one literal left, till none has; the number of one that fails, or none.
func (s *solver) follow() int {
	for s.followed < len(s.trail) && !s.dry {
		l := s.trail[s.followed]
		s.followed++
		if fails := s.look(-l); fails != none {
			return fails
		}
	}
	return none
}

// look looks at the clauses that are watched by l, now that it fails: each is watched by another literal from now on, or, if
// all others fail, tells the one that is left; the number of one that fails, or none.
func (s *solver) look(l int) int {
	all, ok := s.watches[l]
	if !ok {
		return none
	}
	kept, fails := all[:0], none
looking:
	for i, w := range all {
		if s.truth(w.other) > 0 {
			kept = append(kept, w)
			continue
		}
		r := &s.rows[w.at]
		if r.dropped {
			continue
		}
		c, rest := r.lits, r.lits[2:]
		if c[0] == l {
			c[0], c[1] = c[1], c[0]
		}
		w.other = c[0]
		for k := 0; k < len(rest) && s.truth(c[0]) <= 0; k++ {
			if r.next == len(rest) {
				r.next = 0
			}
			if s.truth(rest[r.next]) >= 0 {
				c[1], rest[r.next] = rest[r.next], c[1]
				s.watch(c[1], w)
				continue looking
			}
			r.next++
		}
		kept = append(kept, w)
		switch s.truth(c[0]) {
		case 0:
			s.tell(c[0], w.at)
		case -1:
			fails = w.at
			kept = append(kept, all[i+1:]...)
			break looking
		}
	}
	s.watches[l] = kept
	return fails
}

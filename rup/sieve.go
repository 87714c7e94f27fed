package rup

import (
	"slices"

	"proofmark/clause"
)

// sieve is a proof on its way to become shorter. Of each row that stays it is known on which rows ahead of it rests what it
// was found to follow by; as long as none of these is gone, it follows still, and need not be looked at again.
type sieve struct {
	*book
	proof [][]int
	gone  []bool
	place []int   // of each row, the number of its clause in the book; none of one that says nothing beside what is sure
	rows  int     // the first clause in the book that is a row's
	row   []int   // of each clause from that one on, whose
	upon  [][]int // of each row, those behind it that rest on it, or did
}

// newSieve is for a proof that is one. No row is sure, as each may go.
func newSieve(f clause.Formula, proof [][]int) *sieve {
	s := &sieve{book: open(f), proof: proof, gone: make([]bool, len(proof)), upon: make([][]int, len(proof))}
	s.rows = len(s.clauses)
	for i, row := range proof {
		at := none
		if lits, says := s.left(row); says && !s.lost {
			at = s.write(lits)
			s.row = append(s.row, i)
		}
		s.place = append(s.place, at)
	}
	return s
}

// rests looks whether row i follows from the formula's clauses and the rows ahead of it that are not gone, and if so writes
// down on which of these that rests.
func (s *sieve) rests(i int) bool {
	s.seen = len(s.clauses)
	if s.place[i] == none {
		return true
	}
	s.seen = s.place[i]
	fails := s.deny(s.clauses[s.seen].lits)
	if fails != none {
		for _, at := range s.reasons(fails) {
			if at >= s.rows {
				ahead := s.row[at-s.rows]
				s.upon[ahead] = append(s.upon[ahead], i)
			}
		}
	}
	s.forget()
	return fails != none
}

// without leaves row i out, if all rows behind it that stay follow without it.
func (s *sieve) without(i int) bool {
	s.gone[i] = true
	if s.place[i] == none {
		return true
	}
	s.clauses[s.place[i]].out = true
	slices.Sort(s.upon[i])
	for _, j := range slices.Compact(s.upon[i]) {
		if !s.rests(j) {
			s.gone[i], s.clauses[s.place[i]].out = false, false
			return false
		}
	}
	return true
}

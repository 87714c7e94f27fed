package rup

// follow tells what clauses tell that have one literal left, till none has; the number of one that fails, or none.
func (b *book) follow() int {
	for b.looked < len(b.trail) {
		k := b.trail[b.looked] ^ 1
		b.looked++
		if fails := b.look(k); fails != none {
			return fails
		}
	}
	return none
}

// look looks at the clauses that are watched by k, now that it fails: each is watched by another literal from now on, or, if all
// others fail, tells the one that is left; the number of one that fails, or none.
func (b *book) look(k int) int {
	all := b.watches[k]
	kept := all[:0]
	for i, at := range all {
		if b.moved(at, k) {
			continue
		}
		kept = append(kept, at)
		c := &b.clauses[at]
		if at >= b.seen || c.out || b.holds[c.lits[0]] {
			continue
		}
		if b.holds[c.lits[0]^1] {
			b.watches[k] = append(kept, all[i+1:]...)
			return at
		}
		b.tell(c.lits[0], at)
	}
	b.watches[k] = kept
	return none
}

// moved tells whether the clause is watched by another literal than k now. If not, k is the second one by which it is.
func (b *book) moved(at, k int) bool {
	c := &b.clauses[at]
	if at >= b.seen || c.out {
		return false
	}
	if c.lits[0] == k {
		c.lits[0], c.lits[1] = c.lits[1], c.lits[0]
	}
	if b.holds[c.lits[0]] {
		return false
	}
	for range len(c.lits) - 2 {
		if c.next == len(c.lits) {
			c.next = 2
		}
		if l := c.lits[c.next]; !b.holds[l^1] {
			c.lits[1], c.lits[c.next] = l, k
			b.watches[l] = append(b.watches[l], at)
			return true
		}
		c.next++
	}
	return false
}

// reasons are the clauses by which it came that clause at fails, and that one.
func (b *book) reasons(at int) []int {
	met := make([]bool, len(b.why))
	found := []int{at}
	meet := func(lits []int) {
		for _, k := range lits {
			met[k/2] = true
		}
	}
	meet(b.clauses[at].lits)
	for i := len(b.trail) - 1; i >= b.sure; i-- {
		v := b.trail[i] / 2
		if met[v] && b.why[v] != none {
			found = append(found, b.why[v])
			meet(b.clauses[b.why[v]].lits)
		}
	}
	return found
}

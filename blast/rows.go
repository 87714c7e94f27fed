package blast

import (
	"slices"

	"proofmark/api"
)

// row is the bits of a term, the lowest first.
type row [64]int32

// flat is a row whose bits all are one literal.
func flat(l int32) row {
	var r row
	for k := range r {
		r[k] = l
	}
	return r
}

func constant(n int64) row {
	r := flat(no)
	for k := range 64 {
		if n>>k&1 == 1 {
			r[k] = yes
		}
	}
	return r
}

// number is what a row tells whose bits are all known, and whether they are.
func (r row) number() (int64, bool) {
	n := int64(0)
	for k, l := range r {
		switch l {
		case yes:
			n |= 1 << k
		case no:
		default:
			return 0, false
		}
	}
	return n, true
}

func (r row) not() row {
	for k := range 64 {
		r[k] = -r[k]
	}
	return r
}

// up is the row moved up by so many bits.
func (r row) up(by int) row {
	up := flat(no)
	copy(up[by:], r[:])
	return up
}

// flag is the row of a truth.
func flag(l int32) row {
	r := flat(no)
	r[0] = l
	return r
}

// does is the row of what an operation makes of two; not of divisions, whose bits are free.
func (n *net) does(op api.Op, x, y row) row {
	switch op {
	case api.Add:
		return n.plus(x, y, no)
	case api.Sub:
		return n.plus(x, y.not(), yes)
	case api.Mul:
		return n.times(x, y)
	case api.And:
		return by(n.and, x, y)
	case api.Or:
		return by(n.or, x, y)
	case api.Xor:
		return by(n.xor, x, y)
	case api.Shl:
		return n.higher(x, y)
	case api.Shr:
		return n.lower(x, y, no)
	case api.Sar:
		return n.lower(x, y, x[63])
	case api.Lt:
		x[63], y[63] = y[63], x[63]
		return flag(n.below(x, y))
	case api.LtU:
		return flag(n.below(x, y))
	}
	return flag(-n.differ(x, y))
}

func by(gate func(a, b int32) int32, x, y row) row {
	for k := range 64 {
		x[k] = gate(x[k], y[k])
	}
	return x
}

// plus is the sum of two, and of what is carried into their lowest bits.
func (n *net) plus(x, y row, carry int32) row {
	for k := range 64 {
		sum := n.xor(n.xor(x[k], y[k]), carry)
		if k < 63 {
			carry = n.most(x[k], y[k], carry)
		}
		x[k] = sum
	}
	return x
}

// below is whether x is less than y, as counts: whether nothing is carried out of x and the opposite of y.
func (n *net) below(x, y row) int32 {
	carry := yes
	for k := range 64 {
		carry = n.most(x[k], -y[k], carry)
	}
	return -carry
}

// differ is whether two rows are unlike somewhere. If they are so in a bit by what these are, no gates are made of others.
func (n *net) differ(x, y row) int32 {
	for k := range 64 {
		if x[k] == -y[k] {
			return yes
		}
	}
	return n.any(by(n.xor, x, y))
}

func (n *net) any(r row) int32 {
	none := r.not()
	return -n.all(none[:]...)
}

// times brings both in one order first, so that what is made does not hang on the order in which they were given.
func (n *net) times(x, y row) row {
	if k, ok := x.number(); ok {
		return n.timesNumber(y, k)
	}
	if k, ok := y.number(); ok {
		return n.timesNumber(x, k)
	}
	if slices.Compare(x[:], y[:]) > 0 {
		x, y = y, x
	}
	sum := flat(no)
	for k := range 64 {
		part := x.up(k)
		for i := range 64 {
			part[i] = n.and(part[i], y[k])
		}
		sum = n.plus(sum, part, no)
	}
	return sum
}

// timesNumber takes a row of ones in the number as the power of two behind it, less the one that it begins with: so that
// -1 times a row is one subtraction, and no number asks for more than 33.
func (n *net) timesNumber(x row, number int64) row {
	sum := flat(no)
	left := uint64(number)
	for k := range 64 {
		switch {
		case left&1 == 0:
		case left&2 == 0:
			sum = n.plus(sum, x.up(k), no)
		default:
			sum = n.plus(sum, x.up(k).not(), yes)
			left++
		}
		left >>= 1
	}
	return sum
}

// higher is a row moved up by the lowest six bits of another one: by as much as each of them stands for, or not.
func (n *net) higher(x, y row) row {
	for k := range 6 {
		moved := x.up(1 << k)
		for i := range 64 {
			x[i] = n.pick(y[k], moved[i], x[i])
		}
	}
	return x
}

// lower is a row moved down likewise, with fill coming in from above.
func (n *net) lower(x, y row, fill int32) row {
	for k := range 6 {
		moved := flat(fill)
		copy(moved[:], x[1<<k:])
		for i := range 64 {
			x[i] = n.pick(y[k], moved[i], x[i])
		}
	}
	return x
}

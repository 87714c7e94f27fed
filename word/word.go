// Package word is layer 1: numbers of 64 bits, and what is done with them. See shared/doc/01-word.md.
package word

import (
	"math/bits"

	"proofmark/api"
)

// lowSix is what a move reads of how far it goes: all else of it is passed over.
const lowSix = 63

// Known: P1.1.
func Known(op api.Op) bool { return op >= api.Add && op <= api.Eq }

// Do: P1.2.
func Do(op api.Op, a, b int64) int64 {
	if !Known(op) {
		return 0
	}
	return operations()[op](a, b)
}

// operations has a place for each known operation, and none behind: Do asks Known ahead. What divides asks for a b of 0
// only: -2^63 by -1 wraps round in Go just as the chapter has it.
func operations() [api.Eq + 1]func(a, b int64) int64 {
	return [api.Eq + 1]func(a, b int64) int64{
		api.Add: func(a, b int64) int64 { return a + b },
		api.Sub: func(a, b int64) int64 { return a - b },
		api.Mul: func(a, b int64) int64 { return a * b },
		api.Div: func(a, b int64) int64 {
			if b == 0 {
				return -1
			}
			return a / b
		},
		api.Rem: func(a, b int64) int64 {
			if b == 0 {
				return a
			}
			return a % b
		},
		api.DivU: func(a, b int64) int64 {
			if b == 0 {
				return -1
			}
			return int64(uint64(a) / uint64(b))
		},
		api.RemU: func(a, b int64) int64 {
			if b == 0 {
				return a
			}
			return int64(uint64(a) % uint64(b))
		},
		api.And: func(a, b int64) int64 { return a & b },
		api.Or:  func(a, b int64) int64 { return a | b },
		api.Xor: func(a, b int64) int64 { return a ^ b },
		api.Shl: func(a, b int64) int64 { return a << (uint64(b) & lowSix) },
		api.Shr: func(a, b int64) int64 { return int64(uint64(a) >> (uint64(b) & lowSix)) },
		api.Sar: func(a, b int64) int64 { return a >> (uint64(b) & lowSix) },
		api.Lt:  func(a, b int64) int64 { return truth(a < b) },
		api.LtU: func(a, b int64) int64 { return truth(uint64(a) < uint64(b)) },
		api.Eq:  func(a, b int64) int64 { return truth(a == b) },
	}
}

func truth(yes bool) int64 {
	if yes {
		return 1
	}
	return 0
}

// All: P1.3.
func All(op api.Op, l ...int64) int64 {
	if len(l) == 0 {
		return 0
	}
	made := l[0]
	for _, n := range l[1:] {
		made = Do(op, made, n)
	}
	return made
}

// Swaps: P1.4.
func Swaps(op api.Op) bool { return op == api.Eq || Groups(op) }

// Groups: P1.4. Eq does not: of 5, 5, 1 it makes 1 from the left, 0 from the right.
func Groups(op api.Op) bool {
	switch op {
	case api.Add, api.Mul, api.And, api.Or, api.Xor:
		return true
	}
	return false
}

// Keeps: P1.5. What is left by 0 is all of it: so Rem and RemU have 0.
func Keeps(op api.Op) (int64, bool) {
	switch op {
	case api.Add, api.Sub, api.Or, api.Xor, api.Shl, api.Shr, api.Sar, api.Rem, api.RemU:
		return 0, true
	case api.Mul, api.Div, api.DivU:
		return 1, true
	case api.And:
		return -1, true
	}
	return 0, false
}

// Power: P1.6.
func Power(n int64) (int64, bool) {
	if bits.OnesCount64(uint64(n)) != 1 {
		return 0, false
	}
	return int64(bits.TrailingZeros64(uint64(n))), true
}

// High: P1.7. A number below 0 is 2^64 less than it is as a count: its product is 2^64 times the other one less.
func High(a, b int64, first, second bool) int64 {
	upper, _ := bits.Mul64(uint64(a), uint64(b))
	high := int64(upper)
	if first && a < 0 {
		high -= b
	}
	if second && b < 0 {
		high -= a
	}
	return high
}

package norm

import (
	"slices"

	"proofmark/api"
	"proofmark/term"
	"proofmark/word"
)

// lowSix is what a move reads of how far it goes.
const lowSix = 63

// among tells of what an operation may be whether it is.
func among(op api.Op, ops ...api.Op) bool { return slices.Contains(ops, op) }

// of tells whether what is asked for is of one of ops, whatever its parts are.
func (a asked) of(ops ...api.Op) bool { return among(a.op, ops...) }

// ofNumber tells whether it is of one of ops, of anything and a Const.
func (a asked) ofNumber(ops ...api.Op) bool { return a.right.Kind == term.Const && a.of(ops...) }

// ofJust tells whether it is of one of ops, of anything and the Const n.
func (a asked) ofJust(n int64, ops ...api.Op) bool { return a.ofNumber(ops...) && a.right.N == n }

// leftOf tells whether its left part is a Bin of one of ops, whatever its parts are.
func (a asked) leftOf(ops ...api.Op) bool { return a.left.Kind == term.Bin && among(a.left.Op, ops...) }

// behind tells the number that its left part has as its own right part, if that is a Bin of one of ops, of anything and a Const.
func (a asked) behind(ops ...api.Op) (int64, bool) {
	if !a.leftOf(ops...) {
		return 0, false
	}
	return Number(a.g, a.left.Y)
}

// opposite tells the two-valued term that its left part is Not of, if that is Not of one.
func (a asked) opposite() (term.ID, bool) {
	if n, ok := a.behind(api.Eq); !ok || n != 0 || !Bool(a.g, a.left.X) {
		return term.None, false
	}
	return a.left.X, true
}

// is, number and to are what rules answer: a term that is there; that of a number; what op makes of x and a number.
func is(x term.ID) form { return form{op: itself, x: x} }

func (a asked) number(n int64) form { return is(Const(a.g, n)) }

func (a asked) to(op api.Op, x term.ID, n int64) form { return form{op, x, Const(a.g, n)} }

// rulesOfAll hold whatever the operation is. Behind them a Const stands on the right, if there is one, unless the operation
// swaps not.
func rulesOfAll() []rule {
	return []rule{
		func(a asked) (form, bool) { // both known
			if a.left.Kind != term.Const || a.right.Kind != term.Const {
				return form{}, false
			}
			return a.number(word.Do(a.op, a.left.N, a.right.N)), true
		},
		func(a asked) (form, bool) { // in order: what is lesser ahead, but a number last
			if !word.Swaps(a.op) || a.right.Kind == term.Const || a.left.Kind != term.Const && a.x <= a.y {
				return form{}, false
			}
			return form{a.op, a.y, a.x}, true
		},
		func(a asked) (form, bool) { // what groups
			n, ok := a.behind(a.op)
			if !ok || !a.ofNumber(a.op) || !word.Groups(a.op) {
				return form{}, false
			}
			return a.to(a.op, a.left.X, word.Do(a.op, n, a.right.N)), true
		},
		func(a asked) (form, bool) { // what keeps
			n, ok := word.Keeps(a.op)
			return is(a.x), ok && a.ofJust(n, a.op)
		},
		func(a asked) (form, bool) { // both the same
			switch {
			case a.x != a.y:
				return form{}, false
			case a.of(api.Sub, api.Xor, api.Lt, api.LtU):
				return a.number(0), true
			case a.of(api.Eq):
				return a.number(1), true
			}
			return is(a.x), a.of(api.And, api.Or)
		},
		func(a asked) (form, bool) { // what swallows
			if a.ofJust(0, api.Mul, api.And, api.LtU) || a.ofJust(-1, api.Or) {
				return is(a.y), true
			}
			if a.ofJust(1, api.Rem, api.RemU) {
				return a.number(0), true
			}
			return form{}, false
		},
	}
}

// rulesOfNumbers take one operation for another, of anything and a number.
func rulesOfNumbers() []rule {
	return []rule{
		func(a asked) (form, bool) {
			if !a.ofNumber(api.Sub) {
				return form{}, false
			}
			return a.to(api.Add, a.x, -a.right.N), true
		},
		func(a asked) (form, bool) {
			if !a.ofNumber(api.Shl) {
				return form{}, false
			}
			return a.to(api.Mul, a.x, word.Do(api.Shl, 1, a.right.N)), true
		},
		func(a asked) (form, bool) {
			if !a.ofNumber(api.Shr, api.Sar) || a.right.N&lowSix == a.right.N {
				return form{}, false
			}
			return a.to(a.op, a.x, a.right.N&lowSix), true
		},
		func(a asked) (form, bool) {
			k, ok := word.Power(a.right.N)
			if !ok || !a.ofNumber(api.DivU) {
				return form{}, false
			}
			return a.to(api.Shr, a.x, k), true
		},
		func(a asked) (form, bool) {
			_, ok := word.Power(a.right.N)
			if !ok || !a.ofNumber(api.RemU) {
				return form{}, false
			}
			return a.to(api.And, a.x, a.right.N-1), true
		},
	}
}

// rulesOfTruths are those of comparisons, and of what they make. What stands in the chapter of a two-valued term and 1
// holds of other numbers too: else And and Xor, which group, would not lead to one form whichever number comes first.
func rulesOfTruths() []rule {
	return []rule{
		func(a asked) (form, bool) {
			if !a.ofJust(1, api.LtU) {
				return form{}, false
			}
			return a.to(api.Eq, a.x, 0), true
		},
		func(a asked) (form, bool) {
			if !a.of(api.LtU) || a.left.Kind != term.Const || a.left.N != 0 {
				return form{}, false
			}
			return a.to(api.Eq, Not(a.g, a.y), 0), true
		},
		func(a asked) (form, bool) { // what was put on to x, or left of it, was put on to it on the other side
			n, ok := a.behind(api.Add, api.Xor)
			switch {
			case !ok || !a.ofNumber(api.Eq):
				return form{}, false
			case a.leftOf(api.Add):
				return a.to(api.Eq, a.left.X, a.right.N-n), true
			}
			return a.to(api.Eq, a.left.X, a.right.N^n), true
		},
		func(a asked) (form, bool) { // nothing is between x and y
			return form{api.Eq, a.left.X, a.left.Y}, a.ofJust(0, api.Eq) && a.leftOf(api.Sub, api.Xor)
		},
		func(a asked) (form, bool) {
			if !isTruth(a.left) || !a.ofNumber(api.Eq, api.And, api.Xor) {
				return form{}, false
			}
			return truthAndNumber(a)
		},
	}
}

// truthAndNumber is what Eq, And or Xor make of a two-valued term and a number.
func truthAndNumber(a asked) (form, bool) {
	n := a.right.N
	other, turned := a.opposite()
	switch {
	case a.of(api.Xor) && turned:
		return a.to(api.Xor, other, n^1), true
	case a.of(api.Xor) && n == 1:
		return a.to(api.Eq, a.x, 0), true
	case a.of(api.Eq) && n == 0 && turned:
		return is(other), true
	case a.of(api.Xor), a.of(api.Eq) && n == 0:
		return form{}, false
	case a.of(api.Eq) && n == 1, a.of(api.And) && n&1 == 1:
		return is(a.x), true
	}
	return a.number(0), true
}

package blast

import (
	"cmp"
	"slices"

	"proofmark/api"
	"proofmark/clause"
)

const (
	// maxVars is how many variables a formula may have that is right.
	maxVars = 1 << 24
	// yes is the literal of the variable that is always true, no its other one: the bits of all that is known.
	yes, no int32 = 1, -1
)

// The kinds of gates.
const (
	both  uint8 = iota // a and b
	other              // just one of a and b
	most               // at least two of a, b and c
	pick               // b where a holds, else c
	each               // all of a fan
)

// gate is what a literal that is made of at most three others is made of.
type gate struct {
	kind    uint8
	a, b, c int32
}

// fan is what a literal that is made of many others is made of: with 0 behind them.
type fan struct{ lits [64]int32 }

// step is a gate with the literal that it makes; of each, fan is what it is made of.
type step struct {
	gate
	out int32
	fan []int32
}

// net is a formula that grows by gates, each of which is a variable that is told by those ahead of it.
type net struct {
	full  bool
	vars  int32
	lits  []int32 // those of all clauses, one clause behind the other
	ends  []int   // where each clause ends in lits
	steps []step
	gates map[gate]int32
	fans  map[fan]int32
}

// mark is how far a net had grown.
type mark struct {
	vars              int32
	lits, ends, steps int
}

func newNet() net {
	n := net{gates: map[gate]int32{}, fans: map[fan]int32{}}
	n.add(n.variable())
	return n
}

func (n *net) mark() mark { return mark{n.vars, len(n.lits), len(n.ends), len(n.steps)} }

// back takes away what was added behind the mark. It is for a net that is full: what gates it knows is not asked any more.
func (n *net) back(m mark) {
	n.vars, n.lits, n.ends, n.steps = m.vars, n.lits[:m.lits], n.ends[:m.ends], n.steps[:m.steps]
}

// variable is a new one. Of more than a formula may have there is none, as if there was no room for a clause.
func (n *net) variable() int32 {
	if n.vars == maxVars {
		n.full = true
		return yes
	}
	n.vars++
	return n.vars
}

func (n *net) add(lits ...int32) {
	if len(n.ends) == api.MaxClauses {
		n.full = true
	}
	if n.full {
		return
	}
	n.lits = append(n.lits, lits...)
	n.ends = append(n.ends, len(n.lits))
}

// formula cuts all its clauses out of one piece of memory, each without room behind it, so that none reaches into another.
func (n *net) formula() clause.Formula {
	all := make([]int, len(n.lits))
	for i, l := range n.lits {
		all[i] = int(l)
	}
	f := clause.Formula{Vars: int(n.vars), Clauses: make([][]int, len(n.ends))}
	start := 0
	for i, end := range n.ends {
		f.Clauses[i] = all[start:end:end]
		start = end
	}
	return f
}

// known is the gate's literal, and whether it is a new one, whose clauses are still to come.
func (n *net) known(g gate) (int32, bool) {
	if out, ok := n.gates[g]; ok {
		return out, false
	}
	out := n.variable()
	n.gates[g] = out
	n.steps = append(n.steps, step{gate: g, out: out})
	return out, true
}

func variable(l int32) int32 { return max(l, -l) }

func (n *net) and(a, b int32) int32 {
	switch {
	case a == no || b == no || a == -b:
		return no
	case a == yes || a == b:
		return b
	case b == yes:
		return a
	}
	a, b = min(a, b), max(a, b)
	out, fresh := n.known(gate{kind: both, a: a, b: b})
	if fresh {
		n.add(-a, -b, out)
		n.add(a, -out)
		n.add(b, -out)
	}
	return out
}

func (n *net) or(a, b int32) int32 { return -n.and(-a, -b) }

// xor keeps the gate of variables alone: the other one of a part is the other one of the whole.
func (n *net) xor(a, b int32) int32 {
	if a < 0 {
		return -n.xor(-a, b)
	}
	if b < 0 {
		return -n.xor(a, -b)
	}
	switch {
	case a == b:
		return no
	case a == yes:
		return -b
	case b == yes:
		return -a
	}
	a, b = min(a, b), max(a, b)
	out, fresh := n.known(gate{kind: other, a: a, b: b})
	if fresh {
		n.add(-a, -b, -out)
		n.add(a, b, -out)
		n.add(-a, b, out)
		n.add(a, -b, out)
	}
	return out
}

// most is what at least two of three are. They are brought in order by variables, so that those of one stand side by side,
// and what is always true stands first; the first one is made a variable, as the other ones make the other one.
func (n *net) most(a, b, c int32) int32 {
	l := []int32{a, b, c}
	slices.SortFunc(l, byVariable)
	a, b, c = l[0], l[1], l[2]
	switch {
	case a == b || b == c:
		return b
	case a == -b:
		return c
	case b == -c:
		return a
	case a == yes:
		return n.or(b, c)
	case a == no:
		return n.and(b, c)
	case a < 0:
		return -n.most(-a, -b, -c)
	}
	out, fresh := n.known(gate{kind: most, a: a, b: b, c: c})
	if fresh {
		n.add(-a, -b, out)
		n.add(-a, -c, out)
		n.add(-b, -c, out)
		n.add(a, b, -out)
		n.add(a, c, -out)
		n.add(b, c, -out)
	}
	return out
}

// pick is a where c holds, else b. The last two clauses say nothing new, but tell by themselves what both agree in.
func (n *net) pick(c, a, b int32) int32 {
	switch {
	case c == yes || a == b:
		return a
	case c == no:
		return b
	case c < 0:
		return n.pick(-c, b, a)
	case a == -b:
		return -n.xor(c, a)
	case a == yes || a == c:
		return n.or(c, b)
	case a == no || a == -c:
		return n.and(-c, b)
	case b == yes || b == -c:
		return n.or(-c, a)
	case b == no || b == c:
		return n.and(c, a)
	case a < 0:
		return -n.pick(c, -a, -b)
	}
	out, fresh := n.known(gate{kind: pick, a: c, b: a, c: b})
	if fresh {
		n.add(-c, -a, out)
		n.add(-c, a, -out)
		n.add(c, -b, out)
		n.add(c, b, -out)
		n.add(-a, -b, out)
		n.add(a, b, -out)
	}
	return out
}

// all is what holds where each of at most 64 literals does.
func (n *net) all(lits ...int32) int32 {
	l := slices.Clone(lits)
	slices.SortFunc(l, byVariable)
	l = slices.Compact(l)
	for i := range l {
		if l[i] == no || i > 0 && l[i] == -l[i-1] {
			return no
		}
	}
	if len(l) > 0 && l[0] == yes {
		l = l[1:]
	}
	switch len(l) {
	case 0:
		return yes
	case 1:
		return l[0]
	case 2:
		return n.and(l[0], l[1])
	}
	return n.each(l)
}

func (n *net) each(lits []int32) int32 {
	var f fan
	copy(f.lits[:], lits)
	if out, ok := n.fans[f]; ok {
		return out
	}
	out := n.variable()
	n.fans[f] = out
	n.steps = append(n.steps, step{gate: gate{kind: each}, out: out, fan: lits})
	long := []int32{out}
	for _, l := range lits {
		n.add(l, -out)
		long = append(long, -l)
	}
	n.add(long...)
	return out
}

func byVariable(a, b int32) int {
	return cmp.Or(cmp.Compare(variable(a), variable(b)), cmp.Compare(a, b))
}

// run tells in the model what the gates make, in the order in which they were made.
func (n *net) run(model []bool) {
	holds := func(l int32) bool { return model[variable(l)-1] == (l > 0) }
	for _, s := range n.steps {
		model[s.out-1] = s.made(holds)
	}
}

func (s step) made(holds func(l int32) bool) bool {
	switch s.kind {
	case both:
		return holds(s.a) && holds(s.b)
	case other:
		return holds(s.a) != holds(s.b)
	case most:
		if holds(s.a) {
			return holds(s.b) || holds(s.c)
		}
		return holds(s.b) && holds(s.c)
	case pick:
		if holds(s.a) {
			return holds(s.b)
		}
		return holds(s.c)
	}
	return !slices.ContainsFunc(s.fan, func(l int32) bool { return !holds(l) })
}

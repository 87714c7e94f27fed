package norm

import (
	"math"
	"math/rand"
	"slices"
	"testing"

	"proofmark/api"
	"proofmark/term"
	"proofmark/value"
	"proofmark/word"
)

func sym(n int64) term.Node                     { return term.Node{Kind: term.Sym, N: n} }
func number(n int64) term.Node                  { return term.Node{Kind: term.Const, N: n} }
func bin(op api.Op, x, y term.ID) term.Node     { return term.Node{Kind: term.Bin, Op: op, X: x, Y: y} }
func cell(a int, v int64, at term.ID) term.Node { return term.Node{Kind: term.Cell, A: a, N: v, Y: at} }

// noTerms are numbers of none in a graph of so many terms.
func noTerms(size int) []term.ID {
	return []term.ID{term.None, -2, math.MinInt, math.MinInt32, term.ID(size), term.ID(size) + 1, math.MaxInt32, math.MaxInt}
}

// emptyGraphs are graphs without terms.
func emptyGraphs() map[string]*term.Graph {
	return map[string]*term.Graph{"nil": nil, "new": term.New(), "by hand": {}}
}

// edges are numbers at which operations turn.
var edges = []int64{0, 1, 2, 3, 4, 5, 7, 8, 16, 62, 63, 64, 65, 67, 127, 128, 255, 1 << 31, 1 << 32, 1<<62 + 1, 1 << 62, math.MaxInt64 - 1, math.MaxInt64, math.MinInt64, math.MinInt64 + 1, -1, -2, -3, -8, -63, -64, -65, -1 << 32}

func TestConst(t *testing.T) { // P4.1, P4.5
	g := term.New()
	for i, n := range edges {
		id := Const(g, n)
		if id != term.ID(i) || Const(g, n) != id || id != g.Add(number(n)) || Of(g, id) != id {
			t.Errorf("Const(%d): %d", n, id)
		}
		if got, ok := Number(g, id); got != n || !ok {
			t.Errorf("Number of %d: %d, %t", n, got, ok)
		}
	}
	if Const(nil, 4) != term.None || Const(&term.Graph{}, 4) != 0 {
		t.Error("a nil graph, one by hand")
	}
}

func TestSym(t *testing.T) { // P4.1
	g := term.New()
	for i, k := range []int64{0, 1, 2, 1 << 40, math.MaxInt64} {
		if id := Sym(g, k); id != term.ID(i) || id != g.Add(sym(k)) || Of(g, id) != id {
			t.Errorf("Sym(%d): %d", k, id)
		}
	}
	size := g.Size()
	for _, k := range []int64{-1, -2, math.MinInt64} {
		if id := Sym(g, k); id != term.None {
			t.Errorf("Sym(%d): %d", k, id)
		}
	}
	if Sym(nil, 0) != term.None || g.Size() != size {
		t.Error("a nil graph, or a term that may not be")
	}
}

func TestCell(t *testing.T) { // P4.1: as it is, whatever at is
	g := term.New()
	two := g.Add(number(2))
	rough := g.Add(bin(api.Add, two, two))
	id := Cell(g, 3, 4, rough)
	if n, ok := g.Node(id); !ok || n != cell(3, 4, rough) {
		t.Errorf("Cell: %+v", n)
	}
	if Cell(g, 3, 4, rough) != id || Cell(g, math.MaxInt, math.MaxInt64, id) != id+1 || Cell(g, 0, 0, two) != id+2 {
		t.Error("other cells")
	}
	size := g.Size()
	for _, at := range noTerms(size) {
		if Cell(g, 0, 0, at) != term.None {
			t.Errorf("at %d", at)
		}
	}
	if Cell(g, -1, 0, two) != term.None || Cell(g, 0, -1, two) != term.None || Cell(nil, 0, 0, 0) != term.None || g.Size() != size {
		t.Error("a cell that may not be")
	}
}

func TestNone(t *testing.T) { // P4.2 to P4.5: what is none makes none, and adds none
	for name, g := range emptyGraphs() {
		for _, id := range append(noTerms(0), 0) {
			answersNone(t, name, g, id)
		}
		if Bin(g, api.Add, 0, 0) != term.None || g.Size() != 0 {
			t.Errorf("%s: Bin, or %d terms", name, g.Size())
		}
	}
	g := term.New()
	s := Sym(g, 0)
	for _, id := range noTerms(1) {
		answersNone(t, "of one", g, id)
		for op := api.Add; op <= api.Eq; op++ {
			if Bin(g, op, s, id) != term.None || Bin(g, op, id, s) != term.None || Bin(g, op, id, id) != term.None {
				t.Errorf("Bin of %d and %d", op, id)
			}
		}
	}
	for _, op := range []api.Op{0, api.Eq + 1, 100, 255} {
		if Bin(g, op, s, s) != term.None {
			t.Errorf("Bin of the operation %d", op)
		}
	}
	if g.Size() != 1 {
		t.Errorf("%d terms", g.Size())
	}
}

func answersNone(t *testing.T, name string, g *term.Graph, id term.ID) {
	t.Helper()
	if Not(g, id) != term.None || Of(g, id) != term.None || Bool(g, id) {
		t.Errorf("%s: of %d", name, id)
	}
	if n, ok := Number(g, id); n != 0 || ok {
		t.Errorf("%s: Number(%d): %d, %t", name, id, n, ok)
	}
}

func TestBoolAndNumber(t *testing.T) { // P4.5
	g := term.New()
	s, u := g.Add(sym(1)), g.Add(sym(0))
	for op := api.Add; op <= api.Eq; op++ { // of any terms, plain or not
		for _, id := range []term.ID{g.Add(bin(op, s, u)), g.Add(bin(op, g.Add(number(1)), g.Add(number(0))))} {
			if Bool(g, id) != (op >= api.Lt) {
				t.Errorf("Bool of operation %d: %t", op, Bool(g, id))
			}
			if n, ok := Number(g, id); n != 0 || ok {
				t.Errorf("Number of operation %d: %d, %t", op, n, ok)
			}
		}
	}
	for _, n := range edges {
		if Bool(g, Const(g, n)) != (n == 0 || n == 1) {
			t.Errorf("Bool of %d", n)
		}
	}
	for _, id := range []term.ID{s, u, Cell(g, 0, 1, s), Cell(g, 1, 0, u)} {
		if n, ok := Number(g, id); n != 0 || ok || Bool(g, id) {
			t.Errorf("%s: a number (%d), or two-valued", g.Text(id), n)
		}
	}
}

// maker calls norm for one graph.
type maker struct{ *term.Graph }

func (m maker) n(n int64) term.ID                        { return Const(m.Graph, n) }
func (m maker) bin(op api.Op, x, y term.ID) term.ID      { return Bin(m.Graph, op, x, y) }
func (m maker) not(x term.ID) term.ID                    { return Not(m.Graph, x) }
func (m maker) by(op api.Op, x term.ID, n int64) term.ID { return Bin(m.Graph, op, x, m.n(n)) }

// law is two terms that must be the same, made of plain ones: x and y anything, b two-valued, c and d any numbers.
type law struct {
	name string
	of   func(m maker, x, y, b term.ID, c, d int64) (term.ID, term.ID)
}

// laws are P4.6, sentence by sentence, and P4.3.
func laws() []law {
	all := append(lawsOfAll(), lawsOfMoves()...)
	return append(all, lawsOfTruths()...)
}

func lawsOfAll() []law {
	var all []law
	put := func(name string, of func(m maker, x, y, b term.ID, c, d int64) (term.ID, term.ID)) {
		all = append(all, law{name, of})
	}
	for op := api.Add; op <= api.Eq; op++ {
		put("of numbers", func(m maker, _, _, _ term.ID, c, d int64) (term.ID, term.ID) {
			return m.by(op, m.n(c), d), m.n(word.Do(op, c, d))
		})
		if word.Swaps(op) {
			put("swaps", func(m maker, x, y, _ term.ID, _, _ int64) (term.ID, term.ID) {
				return m.bin(op, x, y), m.bin(op, y, x)
			})
			put("swaps a number", func(m maker, x, _, _ term.ID, c, _ int64) (term.ID, term.ID) {
				return m.by(op, x, c), m.bin(op, m.n(c), x)
			})
		}
		if word.Groups(op) {
			put("groups", func(m maker, x, _, _ term.ID, c, d int64) (term.ID, term.ID) {
				return m.by(op, m.by(op, x, c), d), m.by(op, x, word.Do(op, c, d))
			})
		}
		if n, ok := word.Keeps(op); ok {
			put("keeps", func(m maker, x, _, _ term.ID, _, _ int64) (term.ID, term.ID) { return m.by(op, x, n), x })
		}
		if op == api.Sub || op == api.Xor || op == api.Lt || op == api.LtU || op == api.Eq {
			put("both the same", func(m maker, x, _, _ term.ID, _, _ int64) (term.ID, term.ID) {
				return m.bin(op, x, x), m.n(word.Do(op, 7, 7))
			})
		}
		if op == api.And || op == api.Or {
			put("both the same", func(m maker, x, _, _ term.ID, _, _ int64) (term.ID, term.ID) { return m.bin(op, x, x), x })
		}
	}
	for _, l := range []struct {
		op      api.Op
		with, n int64
	}{{api.Mul, 0, 0}, {api.And, 0, 0}, {api.Or, -1, -1}, {api.Rem, 1, 0}, {api.RemU, 1, 0}, {api.LtU, 0, 0}} {
		put("swallows", func(m maker, x, _, _ term.ID, _, _ int64) (term.ID, term.ID) { return m.by(l.op, x, l.with), m.n(l.n) })
	}
	return all
}

func lawsOfMoves() []law {
	return []law{
		{"Sub of c", func(m maker, x, _, _ term.ID, c, _ int64) (term.ID, term.ID) {
			return m.by(api.Sub, x, c), m.by(api.Add, x, -c)
		}},
		{"Shl of c", func(m maker, x, _, _ term.ID, c, _ int64) (term.ID, term.ID) {
			return m.by(api.Shl, x, c), m.by(api.Mul, x, 1<<(c&63))
		}},
		{"Shr of c", func(m maker, x, _, _ term.ID, c, _ int64) (term.ID, term.ID) {
			return m.by(api.Shr, x, c), m.by(api.Shr, x, c&63)
		}},
		{"Sar of c", func(m maker, x, _, _ term.ID, c, _ int64) (term.ID, term.ID) {
			return m.by(api.Sar, x, c), m.by(api.Sar, x, c&63)
		}},
		{"DivU of 2^k", func(m maker, x, _, _ term.ID, c, _ int64) (term.ID, term.ID) {
			return m.by(api.DivU, x, 1<<(c&63)), m.by(api.Shr, x, c&63)
		}},
		{"RemU of 2^k", func(m maker, x, _, _ term.ID, c, _ int64) (term.ID, term.ID) {
			return m.by(api.RemU, x, 1<<(c&63)), m.by(api.And, x, 1<<(c&63)-1)
		}},
	}
}

func lawsOfTruths() []law {
	return []law{
		{"Eq of Xor", func(m maker, x, y, _ term.ID, _, _ int64) (term.ID, term.ID) {
			return m.by(api.Eq, m.bin(api.Xor, x, y), 0), m.bin(api.Eq, x, y)
		}},
		{"Eq of Xor of c", func(m maker, x, _, _ term.ID, c, _ int64) (term.ID, term.ID) {
			return m.by(api.Eq, m.by(api.Xor, x, c), 0), m.by(api.Eq, x, c)
		}},
		{"Eq of Sub", func(m maker, x, y, _ term.ID, _, _ int64) (term.ID, term.ID) {
			return m.by(api.Eq, m.bin(api.Sub, x, y), 0), m.bin(api.Eq, x, y)
		}},
		{"Eq of Sub of c", func(m maker, x, _, _ term.ID, c, _ int64) (term.ID, term.ID) {
			return m.by(api.Eq, m.by(api.Sub, x, c), 0), m.by(api.Eq, x, c)
		}},
		{"Eq of c less x", func(m maker, x, _, _ term.ID, c, _ int64) (term.ID, term.ID) {
			return m.by(api.Eq, m.bin(api.Sub, m.n(c), x), 0), m.by(api.Eq, x, c)
		}},
		{"Eq of Add", func(m maker, x, _, _ term.ID, c, d int64) (term.ID, term.ID) {
			return m.by(api.Eq, m.by(api.Add, x, c), d), m.by(api.Eq, x, d-c)
		}},
		{"LtU of 1", func(m maker, x, _, _ term.ID, _, _ int64) (term.ID, term.ID) {
			return m.by(api.LtU, x, 1), m.by(api.Eq, x, 0)
		}},
		{"LtU of 0 and x", func(m maker, x, _, _ term.ID, _, _ int64) (term.ID, term.ID) {
			return m.bin(api.LtU, m.n(0), x), m.not(m.not(x))
		}},
		{"Not", func(m maker, x, _, _ term.ID, _, _ int64) (term.ID, term.ID) { return m.not(x), m.by(api.Eq, x, 0) }},
		{"Eq of b and 1", func(m maker, _, _, b term.ID, _, _ int64) (term.ID, term.ID) { return m.by(api.Eq, b, 1), b }},
		{"Not of Not of b", func(m maker, _, _, b term.ID, _, _ int64) (term.ID, term.ID) { return m.not(m.not(b)), b }},
		{"Xor of b and 1", func(m maker, _, _, b term.ID, _, _ int64) (term.ID, term.ID) { return m.by(api.Xor, b, 1), m.not(b) }},
		{"And of b and 1", func(m maker, _, _, b term.ID, _, _ int64) (term.ID, term.ID) { return m.by(api.And, b, 1), b }},
		{"Eq of b and c", func(m maker, _, _, b term.ID, c, _ int64) (term.ID, term.ID) {
			if c == 0 || c == 1 {
				c = 2
			}
			return m.by(api.Eq, b, c), m.n(0)
		}},
	}
}

// holds asks whether all laws hold of these.
func holds(t *testing.T, m maker, x, y, b term.ID, c, d int64) {
	t.Helper()
	for _, l := range laws() {
		one, other := l.of(m, x, y, b, c, d)
		if one != other || one == term.None {
			t.Errorf("%s: x %s, y %s, b %s, c %d, d %d: %s, not %s", l.name, m.Text(x), m.Text(y), m.Text(b), c, d, m.Text(one), m.Text(other))
		}
	}
}

func TestLaws(t *testing.T) { // P4.3, P4.6
	m := maker{term.New()}
	s, u := Sym(m.Graph, 0), Sym(m.Graph, 1)
	for _, x := range []term.ID{s, u, m.n(0), m.n(1), m.n(12), Cell(m.Graph, 1, 2, s), m.bin(api.Add, s, u)} {
		for _, c := range edges {
			for _, d := range edges {
				holds(t, m, x, u, m.bin(api.Lt, s, u), c, d)
			}
		}
	}
}

// smallTerms are all plain terms of a few, of all operations, of numbers that matter, and all of these and few once more.
func smallTerms(m maker) []term.ID {
	few := []term.ID{Sym(m.Graph, 0), Sym(m.Graph, 1), m.n(0), m.n(1), m.n(2), m.n(3), m.n(-1), m.n(64)}
	all := slices.Clone(few)
	for range 2 {
		for _, x := range slices.Clone(all) {
			for _, y := range few[:7] {
				for op := api.Add; op <= api.Eq; op++ {
					all = append(all, m.bin(op, x, y), m.bin(op, y, x))
				}
			}
		}
		slices.Sort(all)
		all = slices.Compact(all)
	}
	return all
}

func TestLawsOfSmall(t *testing.T) { // P4.2, P4.4, P4.6: where rules meet
	m := maker{term.New()}
	all := smallTerms(m)
	truths := slices.DeleteFunc(slices.Clone(all), func(id term.ID) bool { return !Bool(m.Graph, id) })
	r := rand.New(rand.NewSource(4))
	numbers := []int64{0, 1, 2, 3, 4, -1, -2, 63, 64, math.MinInt64, 1 << 32}
	for i := 0; i < len(all); i += 1 + r.Intn(5) {
		x := all[i]
		b := truths[i%len(truths)]
		if Bool(m.Graph, x) {
			b = x
		}
		holds(t, m, x, all[r.Intn(len(all))], b, numbers[r.Intn(len(numbers))], numbers[r.Intn(len(numbers))])
		if Of(m.Graph, x) != x {
			t.Errorf("%s is not plain", m.Text(x))
		}
		if t.Failed() {
			return
		}
	}
}

// chanceNumber is likely to be one at which something turns.
func chanceNumber(r *rand.Rand) int64 {
	if r.Intn(4) == 0 {
		return int64(r.Uint64() >> r.Intn(64))
	}
	return edges[r.Intn(len(edges))]
}

// chancePlain is a plain term, which may be as deep as that.
func chancePlain(r *rand.Rand, m maker, deep int) term.ID {
	switch k := r.Intn(12); {
	case deep == 0 && k < 6, k == 0:
		return m.n(chanceNumber(r))
	case deep == 0, k == 1:
		return Sym(m.Graph, int64(r.Intn(3)))
	case k == 2:
		return Cell(m.Graph, r.Intn(2), int64(r.Intn(2)), chancePlain(r, m, deep-1))
	case k == 3:
		return m.not(chancePlain(r, m, deep-1))
	case k < 6: // numbers behind are what most rules ask for
		return m.by(api.Op(1+r.Intn(16)), chancePlain(r, m, deep-1), chanceNumber(r))
	case k == 6:
		return m.by(api.Xor, chanceTruth(r, m, deep-1), int64(r.Intn(4)))
	}
	return m.bin(api.Op(1+r.Intn(16)), chancePlain(r, m, deep-1), chancePlain(r, m, deep-1))
}

// chanceTruth is a plain two-valued term.
func chanceTruth(r *rand.Rand, m maker, deep int) term.ID {
	deep = max(deep, 0)
	return m.bin(api.Lt+api.Op(r.Intn(3)), chancePlain(r, m, deep), chancePlain(r, m, deep))
}

func TestLawsByChance(t *testing.T) { // P4.2, P4.3, P4.4, P4.6
	r := rand.New(rand.NewSource(1))
	for range 3000 {
		m := maker{term.New()}
		for k := range 4 { // so that numbers rise now this way, now that
			if r.Intn(2) == 0 {
				Sym(m.Graph, int64(3-k))
			}
		}
		x, y, b := chancePlain(r, m, 4), chancePlain(r, m, 3), chanceTruth(r, m, 3)
		holds(t, m, x, y, b, chanceNumber(r), chanceNumber(r))
		holds(t, m, b, y, b, int64(r.Intn(4)), int64(r.Intn(4)))
		for id := range term.ID(m.Size()) { // all that was made on the way
			if Of(m.Graph, id) != id {
				t.Errorf("%s is not plain, but %s", m.Text(id), m.Text(Of(m.Graph, id)))
			}
		}
		for _, x := range []term.ID{m.bin(api.Lt, x, y), m.bin(api.LtU, x, y), m.bin(api.Eq, x, y), m.not(x), m.not(b)} {
			if !Bool(m.Graph, x) {
				t.Errorf("not two-valued: %s", m.Text(x))
			}
		}
		if t.Failed() {
			return
		}
	}
}

// chanceNode is a node of terms that are there, made by hand; now and then one that may not be.
func chanceNode(r *rand.Rand, size int) term.Node {
	part := func() term.ID { return term.ID(max(0, size-1-r.Intn(8))) }
	switch r.Intn(8) {
	case 0:
		return sym(int64(r.Intn(3)))
	case 1, 2:
		return number(chanceNumber(r))
	case 3:
		return cell(r.Intn(2), int64(r.Intn(2)), part())
	}
	return bin(api.Op(1+r.Intn(16)), part(), part())
}

func chanceEnv(r *rand.Rand) value.Env {
	e := value.Env{Syms: []int64{chanceNumber(r), chanceNumber(r), chanceNumber(r)}}
	for range 12 {
		e.Cells = append(e.Cells, value.Cell{Array: r.Intn(2), Version: int64(r.Intn(2)), At: int64(r.Intn(3)), N: chanceNumber(r)})
	}
	return e
}

// sameValue asks whether both have one value, in some environments.
func sameValue(t *testing.T, r *rand.Rand, g *term.Graph, one, other term.ID) {
	t.Helper()
	for range 4 {
		e := chanceEnv(r)
		both, ok := value.All(g, e, one, other)
		if !ok || both[0] != both[1] {
			t.Fatalf("%d %s, %d %s: %v, %t in %+v", one, g.Text(one), other, g.Text(other), both, ok, e)
		}
	}
}

func TestValuesStay(t *testing.T) { // P4.2, P4.3, P4.4, P4.8: of terms made by hand, plain or not
	r := rand.New(rand.NewSource(2))
	for range 1000 {
		g := term.New()
		for range 25 {
			g.Add(chanceNode(r, g.Size()))
		}
		size := g.Size()
		for id := range term.ID(size) {
			plain := Of(g, id)
			sameValue(t, r, g, id, plain)
			for _, part := range g.Uses(plain) {
				if Of(g, part) != part {
					t.Fatalf("%s of %s is not plain", g.Text(part), g.Text(plain))
				}
			}
		}
		for range 40 {
			op, x, y := api.Op(1+r.Intn(16)), term.ID(r.Intn(size)), term.ID(r.Intn(size))
			sameValue(t, r, g, Bin(g, op, x, y), g.Add(bin(op, x, y)))
			sameValue(t, r, g, Not(g, x), g.Add(bin(api.Eq, x, g.Add(number(0)))))
			if Not(g, x) != Bin(g, api.Eq, x, Const(g, 0)) {
				t.Fatalf("Not of %s", g.Text(x))
			}
			if Of(g, g.Add(bin(op, x, y))) != Bin(g, op, Of(g, x), Of(g, y)) || Of(g, Cell(g, 1, 2, x)) != Cell(g, 1, 2, Of(g, x)) {
				t.Fatalf("Of goes otherwise than part by part: %s, %s", g.Text(x), g.Text(y))
			}
		}
	}
}

func TestValuesOfRules(t *testing.T) { // P4.8: at the edges, where chance seldom comes
	for op := api.Add; op <= api.Eq; op++ {
		g := term.New()
		s := Sym(g, 0)
		for _, c := range edges {
			for _, id := range [][2]term.ID{{Bin(g, op, s, Const(g, c)), g.Add(bin(op, s, Const(g, c)))}, {Bin(g, op, Const(g, c), s), g.Add(bin(op, Const(g, c), s))}} {
				for _, n := range edges {
					both, ok := value.All(g, value.Env{Syms: []int64{n}}, id[0], id[1])
					if !ok || both[0] != both[1] {
						t.Errorf("%s and %s of %d: %v", g.Text(id[0]), g.Text(id[1]), n, both)
					}
				}
			}
		}
	}
}

func TestNotTooMuch(t *testing.T) { // what has other values is not the same, and what is only like a rule is left
	m := maker{term.New()}
	s, u := Sym(m.Graph, 0), Sym(m.Graph, 1)
	lt := m.bin(api.Lt, s, u)
	for text, id := range map[string]term.ID{
		"(s0 - s1)": m.bin(api.Sub, s, u), "(s1 - s0)": m.bin(api.Sub, u, s), "(5 - s0)": m.bin(api.Sub, m.n(5), s), "(0 - s0)": m.bin(api.Sub, m.n(0), s),
		"(s1 < s0)": m.bin(api.Lt, u, s), "(s1 <u s0)": m.bin(api.LtU, u, s), "(s0 < 0)": m.by(api.Lt, s, 0), "(s0 < 1)": m.by(api.Lt, s, 1), "(0 < s0)": m.bin(api.Lt, m.n(0), s),
		"(s0 / 8)": m.by(api.Div, s, 8), "(s0 % 8)": m.by(api.Rem, s, 8), "(s0 / 0)": m.by(api.Div, s, 0), "(s0 /u 0)": m.by(api.DivU, s, 0), "(s0 /u 6)": m.by(api.DivU, s, 6), "(s0 %u 6)": m.by(api.RemU, s, 6),
		"(s0 / -1)": m.by(api.Div, s, -1), "(s0 % -1)": m.by(api.Rem, s, -1), "(s0 / s0)": m.bin(api.Div, s, s), "(s0 << s1)": m.bin(api.Shl, s, u), "(1 << s0)": m.bin(api.Shl, m.n(1), s),
		"((s0 >> 3) >> 4)": m.by(api.Sar, m.by(api.Sar, s, 3), 4), "(s0 >>u 63)": m.by(api.Shr, s, -1), "(s0 <u -1)": m.by(api.LtU, s, -1), "(s0 <u 2)": m.by(api.LtU, s, 2), "(2 <u s0)": m.bin(api.LtU, m.n(2), s),
		"((s0 == 0) == 0)": m.not(m.not(s)), "(s0 == 1)": m.by(api.Eq, s, 1), "(s0 & 1)": m.by(api.And, s, 1), "(s0 ^ 1)": m.by(api.Xor, s, 1), "(s0 == 2)": m.by(api.Eq, s, 2),
		"((s0 < s1) | 1)": m.by(api.Or, lt, 1), "((s0 < s1) + 1)": m.by(api.Add, lt, 1), "((s0 < s1) ^ 2)": m.by(api.Xor, lt, 2), "((s0 < s1) == 0)": m.not(lt), "((s0 ^ s1) == 3)": m.by(api.Eq, m.bin(api.Xor, s, u), 3),
		"((s0 - s1) == 3)": m.by(api.Eq, m.bin(api.Sub, s, u), 3), "((s0 + s1) == 0)": m.by(api.Eq, m.bin(api.Add, s, u), 0), "((s0 + 1) * 2)": m.by(api.Mul, m.by(api.Add, s, 1), 2), "((s0 & 6) | 1)": m.by(api.Or, m.by(api.And, s, 6), 1),
	} {
		if m.Text(id) != text {
			t.Errorf("%s, not %s", m.Text(id), text)
		}
	}
}

func TestFarGrown(t *testing.T) { // terms may stand deep, and may be made by hand so that one rule applies again and again
	const far = 1 << 16
	for _, op := range []api.Op{api.Add, api.Mul, api.And, api.Or, api.Xor} {
		g := term.New()
		s, three := Sym(g, 0), Const(g, 3)
		want := int64(3)
		rough := s
		for i := range far {
			rough = g.Add(bin(op, rough, three))
			if i > 0 {
				want = word.Do(op, want, 3)
			}
		}
		if id := Of(g, rough); id != Bin(g, op, s, Const(g, want)) {
			t.Errorf("operation %d: Of is %s", op, g.Text(id))
		}
		if id := Bin(g, op, rough, three); id != Bin(g, op, s, Const(g, word.Do(op, want, 3))) {
			t.Errorf("operation %d: Bin is %s", op, g.Text(id))
		}
	}
	g := term.New()
	rough, plain := Sym(g, 0), Sym(g, 0)
	for i := range far {
		rough = g.Add(bin(api.Sub, rough, Sym(g, int64(i%3+1))))
		rough = g.Add(cell(0, 1, g.Add(bin(api.Shl, rough, Const(g, 3)))))
	}
	for i := range far {
		plain = g.Add(bin(api.Sub, plain, Sym(g, int64(i%3+1))))
		plain = g.Add(cell(0, 1, g.Add(bin(api.Mul, plain, Const(g, 8)))))
	}
	if id := Of(g, rough); id != plain {
		t.Errorf("Of is %d, not %d", id, plain)
	}
}

func TestTimeOfFew(t *testing.T) { // what is shared is made plain once, however often it is used
	g := term.New()
	rough := g.Add(bin(api.Shl, Sym(g, 0), Const(g, 1)))
	for range 2000 {
		rough = g.Add(bin(api.Sub, rough, g.Add(bin(api.Mul, rough, rough))))
	}
	if id := Of(g, rough); id == term.None || Of(g, id) != id {
		t.Errorf("Of is %d", id)
	}
}

func TestOnlyRead(t *testing.T) { // P4.7, and what is asked twice is answered twice, adding no more
	r := rand.New(rand.NewSource(3))
	g := term.New()
	for range 400 {
		g.Add(chanceNode(r, g.Size()))
	}
	ask := func() []term.ID {
		var told []term.ID
		for id := range term.ID(300) {
			told = append(told, Of(g, id), Not(g, id), Bin(g, api.Op(1+id%16), id, (id*7)%300), Cell(g, 1, 1, id), Const(g, int64(id)), Sym(g, int64(id)))
		}
		return told
	}
	before := nodes(g)
	first := ask()
	between := nodes(g)
	if !slices.Equal(between[:len(before)], before) {
		t.Error("a term that was there is another one")
	}
	if !slices.Equal(ask(), first) || !slices.Equal(nodes(g), between) {
		t.Error("the same call answers otherwise, or adds again")
	}
}

func nodes(g *term.Graph) []term.Node {
	var all []term.Node
	for id := range term.ID(g.Size()) {
		n, _ := g.Node(id)
		all = append(all, n)
	}
	return all
}

func TestExamples(t *testing.T) { // the end of the chapter
	m := maker{term.New()}
	s, u := Sym(m.Graph, 0), Sym(m.Graph, 1)
	if text := m.Text(m.by(api.Add, m.by(api.Add, s, 5), -5)); text != "s0" {
		t.Error(text)
	}
	if x, y := m.by(api.Shl, s, 3), m.bin(api.Mul, m.n(8), s); x != y || m.Text(x) != "(s0 * 8)" {
		t.Error(m.Text(x), m.Text(y))
	}
	if x, y := m.not(m.bin(api.Lt, s, u)), m.by(api.Xor, m.bin(api.Lt, s, u), 1); x != y {
		t.Error(m.Text(x), m.Text(y))
	}
	if x, y := m.by(api.LtU, m.bin(api.Xor, s, u), 1), m.bin(api.Eq, s, u); x != y || m.Text(x) != "(s0 == s1)" {
		t.Error(m.Text(x), m.Text(y))
	}
}

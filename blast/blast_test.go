package blast

import (
	"math"
	"math/rand"
	"slices"
	"testing"

	"proofmark/api"
	"proofmark/clause"
	"proofmark/term"
	"proofmark/value"
	"proofmark/word"
)

func sym(n int64) term.Node                 { return term.Node{Kind: term.Sym, N: n} }
func number(n int64) term.Node              { return term.Node{Kind: term.Const, N: n} }
func bin(op api.Op, x, y term.ID) term.Node { return term.Node{Kind: term.Bin, Op: op, X: x, Y: y} }
func at(a int, v int64, place term.ID) term.Node {
	return term.Node{Kind: term.Cell, A: a, N: v, Y: place}
}

// grown is a graph of the nodes, of which each must become the next term.
func grown(t *testing.T, nodes ...term.Node) *term.Graph {
	t.Helper()
	g := term.New()
	for i, n := range nodes {
		if id := g.Add(n); id != term.ID(i) {
			t.Fatalf("Add %+v: %d, not %d", n, id, i)
		}
	}
	return g
}

// noTerms are numbers of none in a graph of so many terms.
func noTerms(size int) []term.ID {
	return []term.ID{term.None, -2, math.MinInt, math.MinInt32, term.ID(size), term.ID(size) + 1, math.MaxInt32, math.MaxInt}
}

// edges are numbers at which operations turn.
var edges = []int64{0, 1, 2, 3, 5, 7, 8, 62, 63, 64, 65, 127, 255, 1 << 31, 1 << 32, 1<<62 + 1, math.MaxInt64, math.MinInt64, math.MinInt64 + 1, -1, -2, -8, -63, -64, -1 << 32}

// chanceNumber is a number that is often an edge.
func chanceNumber(r *rand.Rand) int64 {
	switch r.Intn(3) {
	case 0:
		return edges[r.Intn(len(edges))]
	case 1:
		return int64(r.Intn(16)) - 4
	}
	return int64(r.Uint64())
}

// bits asks for the bits of a term that has some.
func bits(t *testing.T, b *Blaster, id term.ID) []int {
	t.Helper()
	l, ok := b.Bits(id)
	if !ok || len(l) != 64 {
		t.Fatalf("Bits(%d): %d of them, %t", id, len(l), ok)
	}
	return l
}

func holds(model []bool, l int) bool { return model[max(l, -l)-1] == (l > 0) }

// tells is the number that literals tell in a model.
func tells(model []bool, lits []int) (n int64) {
	for k, l := range lits {
		if holds(model, l) {
			n |= 1 << k
		}
	}
	return n
}

// with is the only model of the formula in which the free variables are as they are in model; false, if there is none.
// All others are told by clauses of one literal, which is more than the chapter asks.
func with(t *testing.T, b *Blaster, model []bool) ([]bool, bool) {
	t.Helper()
	f := b.Formula()
	for _, v := range b.Free() {
		if model[v-1] {
			f.Clauses = append(f.Clauses, []int{v})
		} else {
			f.Clauses = append(f.Clauses, []int{-v})
		}
	}
	found, ok := clause.Units(f)
	if !ok {
		return nil, false
	}
	if len(found) != f.Vars {
		t.Fatalf("what is free tells %d of %d variables", len(found), f.Vars)
	}
	only := make([]bool, f.Vars)
	for _, l := range found {
		only[max(l, -l)-1] = l > 0
	}
	return only, true
}

// checkModel looks whether the model is that of the environment, and the only one with the same free variables.
func checkModel(t *testing.T, g *term.Graph, b *Blaster, e value.Env, ids ...term.ID) []bool {
	t.Helper()
	model := b.Model(e)
	if !clause.Holds(b.Formula(), model) {
		t.Fatalf("the formula does not hold in the model of %v", e)
	}
	for _, id := range ids {
		if n, _ := value.Of(g, e, id); tells(model, bits(t, b, id)) != n {
			t.Fatalf("%s of %v: %d, not %d", g.Text(id), e, tells(model, bits(t, b, id)), n)
		}
	}
	if only, ok := with(t, b, model); !ok || !slices.Equal(only, model) {
		t.Fatalf("another model with the same free variables")
	}
	return model
}

func TestNew(t *testing.T) { // P6.1
	b := New(term.New())
	if f := b.Formula(); !clause.Right(f) || !clause.Holds(f, b.Model(value.Env{})) || len(b.Free()) != 0 {
		t.Errorf("%v, free %v", f, b.Free())
	}
	if e := b.Env(b.Model(value.Env{})); len(e.Syms)+len(e.Cells) != 0 {
		t.Errorf("an environment of nothing: %v", e)
	}
	for _, id := range noTerms(0) {
		if l, ok := b.Bits(id); ok || len(l) != 0 {
			t.Errorf("Bits(%d): %v, %t", id, l, ok)
		}
	}
	if _, ok := New(&term.Graph{}).Bits(0); ok {
		t.Error("bits of no term")
	}
}

func TestNothing(t *testing.T) { // P6.1
	for name, b := range map[string]*Blaster{"nil": nil, "by hand": {}, "nil graph": New(nil)} {
		for _, id := range append(noTerms(1), 0) {
			l, ok := b.Bits(id)
			truth, is := b.Truth(id)
			differ, are := b.Differ(id, id)
			if len(l)+truth+differ != 0 || ok || is || are {
				t.Errorf("%s, %d: %v %t %d %t %d %t", name, id, l, ok, truth, is, differ, are)
			}
		}
		if b.Require() || b.Require(1) || b.Require(-1) {
			t.Errorf("%s: Require", name)
		}
		f, e := b.Formula(), b.Env([]bool{true})
		if f.Vars != 0 || len(f.Clauses)+len(b.Free())+len(b.Model(value.Env{}))+len(e.Syms)+len(e.Cells)+len(b.Env(nil).Syms) != 0 {
			t.Errorf("%s: %v, %v", name, f, e)
		}
	}
}

// TestOperations holds all operations against word.Do, with parts that are known, and that are not.
func TestOperations(t *testing.T) { // P6.2, P6.7
	for op := api.Add; op <= api.Eq; op++ {
		g := grown(t, sym(0), sym(1))
		b := New(g)
		ids := []term.ID{g.Add(bin(op, 0, 1)), g.Add(bin(op, 1, 0)), g.Add(bin(op, 0, 0))}
		for _, n := range edges {
			if op == api.Mul && n != n%4 && n != math.MinInt64 && n != 1<<62+1 {
				continue
			}
			k := g.Add(number(n))
			ids = append(ids, g.Add(bin(op, 0, k)), g.Add(bin(op, k, 0)), g.Add(bin(op, k, k)))
			for _, m := range edges {
				ids = append(ids, g.Add(bin(op, k, g.Add(number(m)))))
			}
		}
		for _, id := range ids {
			bits(t, b, id)
		}
		for i, x := range edges {
			checkOperations(t, g, b, value.Env{Syms: []int64{x, edges[(i*7+3)%len(edges)]}}, ids, i == 0)
		}
		for _, x := range edges {
			e := value.Env{Syms: []int64{x, x}}
			checkOperations(t, g, b, e, ids[:3], false)
		}
	}
}

func checkOperations(t *testing.T, g *term.Graph, b *Blaster, e value.Env, ids []term.ID, whole bool) {
	t.Helper()
	if whole {
		checkModel(t, g, b, e, ids...)
		return
	}
	model := b.Model(e)
	for _, id := range ids {
		n, _ := g.Node(id)
		x, _ := value.Of(g, e, n.X)
		y, _ := value.Of(g, e, n.Y)
		if got := tells(model, bits(t, b, id)); got != word.Do(n.Op, x, y) {
			t.Fatalf("%s of %v: %d, not %d", g.Text(id), e, got, word.Do(n.Op, x, y))
		}
	}
}

// TestMulNumbers holds what numbers make of a term, and one another, against word.Do.
func TestMulNumbers(t *testing.T) { // P6.2
	r := rand.New(rand.NewSource(1))
	g := grown(t, sym(0))
	b := New(g)
	var ids []term.ID
	for range 40 {
		k := g.Add(number(chanceNumber(r)))
		ids = append(ids, g.Add(bin(api.Mul, 0, k)), g.Add(bin(api.Mul, k, 0)))
		bits(t, b, ids[len(ids)-1])
		bits(t, b, ids[len(ids)-2])
	}
	for range 20 {
		checkOperations(t, g, b, value.Env{Syms: []int64{chanceNumber(r)}}, ids, false)
	}
}

func TestBitsNone(t *testing.T) { // P6.2, P6.3
	g := grown(t, sym(0), sym(65536), sym(65537), bin(api.Add, 0, 2), at(1, 0, 3), bin(api.And, 4, 1), sym(math.MaxInt64), number(7))
	b := New(g)
	none := append(noTerms(g.Size()), 2, 3, 4, 5, 6)
	for _, id := range none {
		for _, other := range []term.ID{0, 1, 7, id} {
			l, ok := b.Bits(id)
			truth, is := b.Truth(id)
			differ, are := b.Differ(id, other)
			turned, too := b.Differ(other, id)
			if len(l)+truth+differ+turned != 0 || ok || is || are || too {
				t.Errorf("%d: %v %t %d %t %d %t %d %t", id, l, ok, truth, is, differ, are, turned, too)
			}
		}
	}
	if f := b.Formula(); f.Vars > 1 || len(f.Clauses) > 1 || len(b.Free()) != 0 {
		t.Errorf("what was answered false has left %v", f)
	}
	if l := bits(t, b, 1); !slices.Equal(l, b.Free()) {
		t.Errorf("the symbol 65536: %v, free %v", l, b.Free())
	}
	e := b.Env(b.Model(value.Env{Syms: append(make([]int64, 65536), 5)}))
	if len(e.Syms) != 65537 || e.Sym(65536) != 5 || e.Sym(0) != 0 {
		t.Errorf("%d symbols, the last %d", len(e.Syms), e.Sym(65536))
	}
	bits(t, b, g.Add(sym(3))) // a graph that has grown
}

func TestTruth(t *testing.T) { // P6.3
	g := grown(t, sym(0), number(0), number(5), number(math.MinInt64), bin(api.LtU, 0, 2), bin(api.And, 0, 2), bin(api.Sub, 0, 0))
	b := New(g)
	for id := range term.ID(g.Size()) {
		lit, ok := b.Truth(id)
		again, _ := b.Truth(id)
		if !ok || lit != again {
			t.Fatalf("Truth(%d): %d, %d, %t", id, lit, again, ok)
		}
		for _, n := range edges {
			e := value.Env{Syms: []int64{n}}
			want, _ := value.Of(g, e, id)
			if model := checkModel(t, g, b, e); holds(model, lit) != (want != 0) {
				t.Errorf("Truth(%s) of %d", g.Text(id), n)
			}
		}
	}
}

func TestDiffer(t *testing.T) { // P6.3, P6.4, P6.10
	g := grown(t, sym(0), sym(1), number(5), bin(api.Add, 0, 1), bin(api.Sub, 1, 2), at(3, 1, 0), bin(api.Div, 0, 1), number(6))
	for x := range term.ID(g.Size()) {
		for y := range term.ID(g.Size()) {
			b := New(g)
			lit, ok := b.Differ(x, y)
			if !ok {
				t.Fatalf("Differ(%d, %d): none", x, y)
			}
			for i, n := range edges {
				e := value.Env{Syms: []int64{n, edges[(i+2)%len(edges)] - 5}, Cells: []value.Cell{{Array: 3, Version: 1, At: n, N: n + n%2}}}
				p, _ := value.Of(g, e, x)
				q, _ := value.Of(g, e, y)
				if holds(b.Model(e), lit) != (p != q) {
					t.Errorf("Differ(%d, %d) of %v", x, y, e)
				}
			}
			if !b.Require(lit) {
				t.Errorf("Differ's literal may not be required")
			}
			if _, ok := clause.Units(b.Formula()); ok == (x == y) {
				t.Errorf("Differ(%d, %d) required: %t", x, y, ok)
			}
		}
	}
}

func TestRequire(t *testing.T) { // P6.4, P6.5
	g := grown(t, sym(0))
	b := New(g)
	l := bits(t, b, 0)
	f := b.Formula()
	for _, wrong := range []int{0, f.Vars + 1, -f.Vars - 1, math.MinInt, math.MaxInt, 1 << 32, 1<<32 + 1, math.MinInt32, -1<<32 - 1} {
		if b.Require(wrong) || b.Require(l[0], wrong) || b.Require(wrong, 1) {
			t.Errorf("Require(%d)", wrong)
		}
	}
	if got := b.Formula(); len(got.Clauses) != len(f.Clauses) || got.Vars != f.Vars {
		t.Fatal("what was not required was added")
	}
	rows := [][]int{{l[3]}, {l[5], -l[4], l[5], -l[5]}, {f.Vars, -f.Vars}, {}}
	for _, row := range rows {
		if !b.Require(row...) {
			t.Fatalf("Require(%v)", row)
		}
	}
	got := b.Formula()
	if got.Vars != f.Vars || len(got.Clauses) != len(f.Clauses)+len(rows) {
		t.Fatalf("%d clauses", len(got.Clauses))
	}
	for i, row := range append(slices.Clone(f.Clauses), rows...) {
		if !slices.Equal(got.Clauses[i], row) {
			t.Errorf("the clause %d: %v, not %v", i, got.Clauses[i], row)
		}
	}
	model := b.Model(value.Env{Syms: []int64{4}})
	if tells(model, l) != 4 || clause.Holds(b.Formula(), model) { // what was required is not asked
		t.Error("Model with an empty clause")
	}
}

// TestGrows looks whether clauses come behind those that there are, and none goes.
func TestGrows(t *testing.T) { // P6.5
	g := grown(t, sym(0), sym(1), bin(api.Add, 0, 1), bin(api.Lt, 2, 0), bin(api.Shl, 0, 1), at(0, 0, 2), at(0, 0, 4))
	b := New(g)
	last := b.Formula()
	for id := range term.ID(g.Size()) {
		bits(t, b, id)
		b.Require(b.Formula().Vars)
		b.Truth(id)
		f := b.Formula()
		if f.Vars < last.Vars || len(f.Clauses) <= len(last.Clauses) || !clause.Right(f) {
			t.Fatalf("%d: %d clauses after %d", id, len(f.Clauses), len(last.Clauses))
		}
		for i, c := range last.Clauses {
			if !slices.Equal(c, f.Clauses[i]) {
				t.Fatalf("%d: the clause %d was %v, and is %v", id, i, c, f.Clauses[i])
			}
		}
		last = f
	}
	for id := range term.ID(g.Size()) { // what is there is there
		bits(t, b, id)
		b.Truth(id)
	}
	if f := b.Formula(); f.Vars != last.Vars || len(f.Clauses) != len(last.Clauses) {
		t.Error("what was asked once more was added once more")
	}
}

func TestFree(t *testing.T) { // P6.6
	g := grown(t, sym(2), sym(0), bin(api.Div, 0, 1), bin(api.Div, 0, 0), bin(api.Rem, 0, 1), bin(api.DivU, 0, 1), bin(api.RemU, 0, 1),
		number(6), number(3), bin(api.Div, 7, 8), at(1, 0, 0), at(1, 1, 0), at(2, 0, 0), bin(api.Add, 0, 1), bin(api.And, 2, 4), sym(9))
	b := New(g)
	bits(t, b, 14)
	if want := append(append(bits(t, b, 0), bits(t, b, 1)...), append(bits(t, b, 2), bits(t, b, 4)...)...); !slices.Equal(b.Free(), want) {
		t.Errorf("%v, not %v", b.Free(), want)
	}
	for id := range term.ID(15) {
		bits(t, b, id)
	}
	free := b.Free()
	if len(free) != 64*11 || !slices.IsSorted(free) || len(slices.Compact(slices.Clone(free))) != len(free) || free[0] < 1 {
		t.Errorf("%d free: %v", len(free), free)
	}
	for _, id := range []term.ID{0, 1, 2, 3, 4, 5, 6, 9, 10, 11, 12} {
		for _, l := range bits(t, b, id) {
			if _, ok := slices.BinarySearch(free, max(l, -l)); !ok {
				t.Errorf("%d is not free, a bit of %d", l, id)
			}
		}
	}
}

// TestDivisionsFree looks whether there is a model whatever the bits of divisions are, those of known numbers too.
func TestDivisionsFree(t *testing.T) { // P6.6, P6.7
	g := grown(t, sym(0), number(6), number(3), bin(api.Div, 1, 2), bin(api.RemU, 0, 0), bin(api.Div, 0, 0), bin(api.Add, 3, 4), bin(api.DivU, 1, 5))
	b := New(g)
	for id := range term.ID(g.Size()) {
		bits(t, b, id)
	}
	r := rand.New(rand.NewSource(2))
	for range 20 {
		model := make([]bool, b.Formula().Vars)
		for i := range model {
			model[i] = r.Intn(2) == 0
		}
		only, ok := with(t, b, model)
		if !ok {
			t.Fatal("no model")
		}
		if tells(only, bits(t, b, 6)) != tells(only, bits(t, b, 3))+tells(only, bits(t, b, 4)) {
			t.Error("a sum of divisions")
		}
	}
}

func TestCells(t *testing.T) { // P6.2, P6.8
	g := grown(t, sym(0), sym(1), at(1, 0, 0), at(1, 0, 1), at(1, 1, 1), at(2, 0, 1), bin(api.And, 1, 1), at(1, 0, 6), number(4), at(1, 0, 8), number(5), at(1, 0, 10))
	b := New(g)
	for _, id := range []term.ID{11, 2, 7, 9, 5, 4, 3} {
		bits(t, b, id)
	}
	e := value.Env{Syms: []int64{4, 4}, Cells: []value.Cell{{Array: 1, At: 4, N: 9}, {Array: 1, Version: 1, At: 4, N: 8}, {Array: 2, At: 4, N: 7}, {Array: 1, At: 5, N: 6}}}
	model := checkModel(t, g, b, e, 2, 3, 4, 5, 7, 9, 11)
	want := []value.Cell{{Array: 1, At: 4, N: 9}, {Array: 1, At: 4, N: 9}, {Array: 1, Version: 1, At: 4, N: 8}, {Array: 2, At: 4, N: 7}, {Array: 1, At: 4, N: 9}, {Array: 1, At: 4, N: 9}, {Array: 1, At: 5, N: 6}}
	if got := b.Env(model); !slices.Equal(got.Cells, want) || !slices.Equal(got.Syms, e.Syms) {
		t.Errorf("%v, not %v", got, want)
	}
	for _, id := range []term.ID{2, 3, 7, 9} { // all of one place
		for k := range 64 {
			v := bits(t, b, id)[k]
			changed := slices.Clone(model)
			changed[v-1] = !changed[v-1]
			if clause.Holds(b.Formula(), changed) {
				t.Errorf("the cells of one place are unlike, by the bit %d of %d", k, id)
			}
		}
	}
	for _, id := range []term.ID{4, 5, 11} { // each of another array, version or place
		v := bits(t, b, id)[17]
		changed := slices.Clone(model)
		changed[v-1] = !changed[v-1]
		if !clause.Holds(b.Formula(), changed) {
			t.Errorf("the cell %d is like another one", id)
		}
	}
	apart := value.Env{Syms: []int64{4, 5}, Cells: []value.Cell{{Array: 1, At: 5, N: 1}}}
	checkModel(t, g, b, apart, 2, 3, 4, 5, 7, 9, 11)
}

// TestCellsFull has more cells, each of which may be each other one's, than there is room for.
func TestCellsFull(t *testing.T) { // P6.2
	g := term.New()
	b := New(g)
	prior := b.Formula()
	for k := int64(0); ; k++ {
		_, ok := b.Bits(g.Add(at(1, 0, g.Add(sym(k)))))
		if !ok {
			break
		}
		prior = b.Formula()
	}
	f := b.Formula()
	if f.Vars != prior.Vars || len(f.Clauses) != len(prior.Clauses) || len(f.Clauses) < api.MaxClauses/2 || !clause.Holds(f, b.Model(value.Env{Syms: []int64{1, 1, 2}})) {
		t.Errorf("full: %d clauses after %d", len(f.Clauses), len(prior.Clauses))
	}
}

// TestCellsOrder has a place that is known, and one that is not, in either order.
func TestCellsOrder(t *testing.T) { // P6.2
	for _, order := range [][]term.ID{{3, 4}, {4, 3}} {
		g := grown(t, sym(0), number(4), bin(api.And, 0, 0), at(1, 0, 0), at(1, 0, 1), at(1, 0, 2))
		b := New(g)
		for _, id := range order {
			bits(t, b, id)
		}
		model := checkModel(t, g, b, value.Env{Syms: []int64{4}, Cells: []value.Cell{{Array: 1, At: 4, N: 3}}}, 3, 4)
		for _, id := range order {
			v := bits(t, b, id)[8]
			changed := slices.Clone(model)
			changed[v-1] = !changed[v-1]
			if clause.Holds(b.Formula(), changed) {
				t.Errorf("in order %v: the cells of one place are unlike", order)
			}
		}
		n := len(b.Formula().Clauses)
		if !slices.Equal(bits(t, b, 5), bits(t, b, 3)) || len(b.Formula().Clauses) != n {
			t.Error("cells whose places have the same bits share theirs")
		}
	}
}

// TestCellsApart has places that are not known, but known to be unlike.
func TestCellsApart(t *testing.T) { // P6.2
	g := grown(t, sym(0), number(1), bin(api.Or, 0, 1), sym(1), number(-2), bin(api.And, 3, 4), at(1, 0, 2), at(1, 0, 5))
	b := New(g)
	bits(t, b, 6)
	bits(t, b, 7)
	if n := len(b.Formula().Clauses); n > 1 {
		t.Errorf("%d clauses, of places that are never the same", n)
	}
	checkModel(t, g, b, value.Env{Syms: []int64{7, 6}, Cells: []value.Cell{{Array: 1, At: 7, N: 3}, {Array: 1, At: 6, N: 4}}}, 6, 7)
}

func TestEnvNothing(t *testing.T) { // P6.8
	g := grown(t, sym(3), at(0, 0, 0))
	b := New(g)
	bits(t, b, 1)
	n := b.Formula().Vars
	for _, wrong := range []int{0, 1, n - 1, n + 1, 2 * n} {
		if e := b.Env(make([]bool, wrong)); len(e.Syms)+len(e.Cells) != 0 {
			t.Errorf("of %d truths: %v", wrong, e)
		}
	}
	if e := b.Env(make([]bool, n)); !slices.Equal(e.Syms, make([]int64, 4)) || len(e.Cells) != 1 {
		t.Errorf("of no true one: %v", e) // even if the formula does not hold there
	}
	all := slices.Repeat([]bool{true}, n)
	if e := b.Env(all); !slices.Equal(e.Syms, []int64{0, 0, 0, -1}) || !slices.Equal(e.Cells, []value.Cell{{At: -1, N: -1}}) {
		t.Errorf("of all true: %v", e)
	}
}

// chanceGraph is a graph of so many terms; there are no more than a few multiplications, as they are long.
func chanceGraph(r *rand.Rand, size int) *term.Graph {
	g := term.New()
	g.Add(sym(int64(r.Intn(3))))
	part := func() term.ID { return term.ID(r.Intn(g.Size())) }
	for g.Size() < size {
		switch r.Intn(8) {
		case 0:
			g.Add(sym(int64(r.Intn(4))))
		case 1:
			g.Add(number(chanceNumber(r)))
		case 2, 3:
			g.Add(at(r.Intn(2), int64(r.Intn(2)), part()))
		default:
			op := api.Op(1 + r.Intn(16))
			if op == api.Mul && r.Intn(4) > 0 {
				op = api.Add
			}
			g.Add(bin(op, part(), part()))
		}
	}
	return g
}

// chanceEnv has cells at the places that the graph asks for, most of the time.
func chanceEnv(r *rand.Rand, g *term.Graph) value.Env {
	var e value.Env
	for range 4 {
		e.Syms = append(e.Syms, chanceNumber(r))
	}
	for id := range term.ID(g.Size()) {
		if n, _ := g.Node(id); n.Kind == term.Cell && r.Intn(4) > 0 {
			place, _ := value.Of(g, e, n.Y)
			e.Cells = append(e.Cells, value.Cell{Array: n.A, Version: n.N, At: place, N: chanceNumber(r)})
		}
	}
	return e
}

// asked blasts some terms, by one call or another, and tells which.
func asked(t *testing.T, r *rand.Rand, g *term.Graph, b *Blaster) (ids []term.ID) {
	for range 1 + r.Intn(6) {
		x, y := term.ID(r.Intn(g.Size())), term.ID(r.Intn(g.Size()))
		ids = append(ids, x)
		switch r.Intn(3) {
		case 0:
			bits(t, b, x)
		case 1:
			b.Truth(x)
		default:
			b.Differ(x, y)
			ids = append(ids, y)
		}
	}
	return ids
}

func TestChance(t *testing.T) { // P6.2, P6.3, P6.6, P6.7, P6.8
	r := rand.New(rand.NewSource(3))
	for range 60 {
		g := chanceGraph(r, 2+r.Intn(24))
		b := New(g)
		roots := asked(t, r, g, b)
		used := g.Uses(roots...)
		e := chanceEnv(r, g)
		model := checkModel(t, g, b, e, used...)
		checkFree(t, g, b, used)
		checkEnv(t, g, b, e, model, roots)
		for range 4 {
			e := chanceEnv(r, g)
			model := b.Model(e)
			for _, id := range used {
				if n, _ := value.Of(g, e, id); tells(model, bits(t, b, id)) != n {
					t.Fatalf("%s of %v", g.Text(id), e)
				}
			}
			if !clause.Holds(b.Formula(), model) {
				t.Fatal("the formula does not hold")
			}
			checkEnv(t, g, b, e, model, roots)
		}
		checkAnyFree(t, r, g, b, used)
	}
}

// checkFree holds Free against the bits of the terms that have free ones.
func checkFree(t *testing.T, g *term.Graph, b *Blaster, used []term.ID) {
	t.Helper()
	var want []int
	for _, id := range used {
		if isFree(g, id) {
			want = append(want, bits(t, b, id)...)
		}
	}
	slices.Sort(want)
	if want = slices.Compact(want); !slices.Equal(b.Free(), want) {
		t.Fatalf("free %v, not %v", b.Free(), want)
	}
}

func isFree(g *term.Graph, id term.ID) bool {
	n, _ := g.Node(id)
	switch n.Op {
	case api.Div, api.Rem, api.DivU, api.RemU:
		return true
	}
	return n.Kind == term.Sym || n.Kind == term.Cell
}

// checkEnv holds what Env tells of the model of e against e.
func checkEnv(t *testing.T, g *term.Graph, b *Blaster, e value.Env, model []bool, roots []term.ID) {
	t.Helper()
	var want value.Env
	syms, cells := value.Needs(g, roots...)
	if len(syms) > 0 {
		want.Syms = make([]int64, syms[len(syms)-1]+1)
	}
	for _, k := range syms {
		want.Syms[k] = e.Sym(k)
	}
	for _, id := range cells {
		n, _ := g.Node(id)
		place, _ := value.Of(g, e, n.Y)
		has, _ := value.Of(g, e, id)
		want.Cells = append(want.Cells, value.Cell{Array: n.A, Version: n.N, At: place, N: has})
	}
	got := b.Env(model)
	if !slices.Equal(got.Syms, want.Syms) || !slices.Equal(got.Cells, want.Cells) {
		t.Fatalf("%v, not %v", got, want)
	}
}

// checkAnyFree looks at the model of free variables that are anyhow: there is one, unless two cells of one place are unlike;
// and in it the bits of each term are what its operation makes of those of its parts.
func checkAnyFree(t *testing.T, r *rand.Rand, g *term.Graph, b *Blaster, used []term.ID) {
	t.Helper()
	model := make([]bool, b.Formula().Vars)
	for i := range model {
		model[i] = r.Intn(2) == 0
	}
	only, ok := with(t, b, model)
	if !ok {
		checkClash(t, g, b, used, model)
		return
	}
	type spot struct {
		array       int
		version, at int64
	}
	has := map[spot]int64{}
	for _, id := range used {
		n, _ := g.Node(id)
		got := tells(only, bits(t, b, id))
		switch {
		case n.Kind == term.Const && got != n.N:
			t.Fatalf("the number %d: %d", n.N, got)
		case n.Kind == term.Cell:
			where := spot{n.A, n.N, tells(only, bits(t, b, n.Y))}
			if known, ok := has[where]; ok && known != got {
				t.Fatalf("two cells of one place: %d, %d", known, got)
			}
			has[where] = got
		case n.Kind == term.Bin && !isFree(g, id):
			if want := word.Do(n.Op, tells(only, bits(t, b, n.X)), tells(only, bits(t, b, n.Y))); got != want {
				t.Fatalf("%s: %d, not %d", g.Text(id), got, want)
			}
		}
	}
}

// checkClash looks whether two cells with bits of their own, of one array and version, may be why there is no model.
func checkClash(t *testing.T, g *term.Graph, b *Blaster, used []term.ID, model []bool) {
	t.Helper()
	type bank struct {
		array   int
		version int64
	}
	first := map[bank][]int{}
	for _, id := range used {
		n, _ := g.Node(id)
		if n.Kind != term.Cell {
			continue
		}
		l := bits(t, b, id)
		if known, ok := first[bank{n.A, n.N}]; ok && known[0] != l[0] {
			return
		}
		first[bank{n.A, n.N}] = l
	}
	t.Fatal("no model, though no two cells are of one place")
}

// TestFull blasts multiplications until there is no room, and looks whether all is as it was then, and stays so.
func TestFull(t *testing.T) { // P6.2, P6.3, P6.4
	g := term.New()
	b := New(g)
	last, prior := term.ID(0), clause.Formula{}
	for k := int64(0); ; k++ {
		prior = b.Formula()
		s := g.Add(sym(2 * k))
		last = g.Add(bin(api.Mul, s, g.Add(sym(2*k+1))))
		if _, ok := b.Bits(last); !ok {
			break
		}
	}
	check := func() {
		t.Helper()
		f := b.Formula()
		if f.Vars != prior.Vars || !slices.EqualFunc(f.Clauses, prior.Clauses, func(a, b []int) bool { return slices.Equal(a, b) }) || !clause.Right(f) {
			t.Fatalf("%d clauses after %d", len(f.Clauses), len(prior.Clauses))
		}
	}
	check()
	if n := len(prior.Clauses); n > api.MaxClauses || n < api.MaxClauses/2 {
		t.Errorf("full with %d clauses", n)
	}
	first := term.ID(0)
	for _, id := range []term.ID{first, last, g.Add(number(3))} {
		l, ok := b.Bits(id)
		truth, is := b.Truth(id)
		differ, are := b.Differ(id, id)
		if len(l)+truth+differ != 0 || ok || is || are {
			t.Errorf("full: %v %t %d %t %d %t", l, ok, truth, is, differ, are)
		}
	}
	if b.Require(1) || b.Require() {
		t.Error("full: Require")
	}
	check()
	e := value.Env{Syms: []int64{6, 7, -3, 1 << 40}}
	model := b.Model(e)
	if !clause.Holds(prior, model) || len(b.Free())%128 != 0 {
		t.Error("full: Model, Free")
	}
	if got := b.Env(model); !slices.Equal(got.Syms[:4], e.Syms) || len(got.Syms) != len(b.Free())/64 {
		t.Errorf("full: Env: %v", got)
	}
}

// TestFullRequire goes up to the very last clause.
func TestFullRequire(t *testing.T) { // P6.4
	g := grown(t, sym(0), sym(1), bin(api.And, 0, 1), bin(api.Or, 0, 1))
	b := New(g)
	bits(t, b, 2)
	for n := len(b.Formula().Clauses); n < api.MaxClauses; n++ {
		if !b.Require(1) {
			t.Fatalf("Require of the clause %d", n)
		}
	}
	if l, ok := b.Bits(2); !ok || len(l) != 64 || b.Require(0) {
		t.Error("not full yet")
	}
	if _, ok := b.Differ(0, 0); !ok {
		t.Error("what asks for no clause is answered still")
	}
	if f := b.Formula(); len(f.Clauses) != api.MaxClauses || !clause.Right(f) {
		t.Error("as many as there may be")
	}
	if b.Require(1) {
		t.Error("one more")
	}
	if _, ok := b.Bits(2); ok {
		t.Error("full, it answers false")
	}
	if f := b.Formula(); len(f.Clauses) != api.MaxClauses {
		t.Error("full, it adds nothing")
	}
}

// TestFullDiffer has room for both terms' bits, but not for what is asked of them.
func TestFullDiffer(t *testing.T) { // P6.3
	g := grown(t, sym(0), sym(1))
	for name, ask := range map[string]func(b *Blaster) (int, bool){
		"Truth":  func(b *Blaster) (int, bool) { return b.Truth(0) },
		"Differ": func(b *Blaster) (int, bool) { return b.Differ(0, 1) },
	} {
		b := New(g)
		for n := len(b.Formula().Clauses); n < api.MaxClauses-40; n++ {
			b.Require(1)
		}
		f := b.Formula()
		if lit, ok := ask(b); ok || lit != 0 {
			t.Errorf("%s: %d, %t", name, lit, ok)
		}
		if got := b.Formula(); got.Vars != f.Vars || len(got.Clauses) != len(f.Clauses) || len(b.Free()) != 0 {
			t.Errorf("%s has left something", name)
		}
		if len(b.Env(b.Model(value.Env{})).Syms) != 0 || b.Require(1) {
			t.Errorf("%s: full", name)
		}
	}
}

// TestVariables asks for more variables than a formula may have, with no clauses at all.
func TestVariables(t *testing.T) { // P6.5
	g := grown(t, sym(0))
	b := New(g)
	bits(t, b, 0)
	last := term.ID(0)
	ok := true
	for n := 0; ok; n++ {
		last = g.Add(bin(api.DivU, last, 0))
		if n >= 1<<18-10 {
			_, ok = b.Bits(last)
		}
	}
	if f := b.Formula(); f.Vars < 1<<24-128 || !clause.Right(f) || len(b.Free()) > f.Vars {
		t.Errorf("%d variables", f.Vars)
	}
}

// TestDeep blasts a term of many levels.
func TestDeep(t *testing.T) { // P6.2
	g := grown(t, sym(0), number(3))
	last := term.ID(0)
	for k := range 50000 {
		last = g.Add(bin([]api.Op{api.Shl, api.Shr}[k%2], last, 1))
	}
	b := New(g)
	l := bits(t, b, last)
	if model := b.Model(value.Env{Syms: []int64{-1}}); tells(model, l) != math.MaxInt64>>2 {
		t.Errorf("%x", tells(model, l))
	}
}

func TestManyCells(t *testing.T) { // P6.2
	g := term.New()
	var ids []term.ID
	for k := range 20000 {
		ids = append(ids, g.Add(at(1, 0, g.Add(number(int64(k))))))
	}
	b := New(g)
	for _, id := range ids {
		bits(t, b, id)
	}
	if f := b.Formula(); len(f.Clauses) > 1 || len(b.Free()) != 64*len(ids) {
		t.Errorf("%d clauses, %d free, of places that are known", len(f.Clauses), len(b.Free()))
	}
}

func TestOnlyRead(t *testing.T) { // P6.9
	g := grown(t, sym(0), sym(1), at(1, 0, 0), at(1, 0, 1), bin(api.Add, 2, 3))
	b, same := New(g), New(g)
	bits(t, b, 4)
	bits(t, same, 4)
	lits := []int{2, -3, 4}
	if !b.Require(lits...) || !same.Require(2, -3, 4) || !slices.Equal(lits, []int{2, -3, 4}) {
		t.Fatal("Require")
	}
	lits[0] = 9
	e := value.Env{Syms: []int64{1, 2, 77}[:2], Cells: []value.Cell{{Array: 1, At: 1, N: 5}, {Array: 9}}[:1]}
	model := b.Model(e)
	first := b.Env(model)
	if e.Syms[:3][2] != 77 || e.Cells[:2][1].Array != 9 || e.Cells[0].N != 5 {
		t.Error("the environment has changed")
	}
	f := b.Formula()
	for i := range f.Clauses {
		f.Clauses[i] = append(f.Clauses[i], 1)
		for k := range f.Clauses[i] {
			f.Clauses[i][k] = 0
		}
	}
	l := bits(t, b, 4)
	clear(l)
	clear(b.Free())
	clear(model)
	first.Syms[0], first.Cells[0].N = 99, 99
	again := b.Env(b.Model(e))
	if !slices.Equal(bits(t, b, 4), bits(t, same, 4)) || !slices.Equal(b.Free(), same.Free()) || !slices.Equal(b.Model(e), same.Model(e)) {
		t.Error("what was answered shares its memory")
	}
	if again.Syms[0] != 1 || again.Cells[0].N != 5 || g.Size() != 5 {
		t.Error("Env's answer shares its memory")
	}
	for i, c := range b.Formula().Clauses {
		if !slices.Equal(c, same.Formula().Clauses[i]) {
			t.Errorf("the clause %d: %v", i, c)
		}
	}
}

// TestRowsApart looks whether no clause of a formula reaches into the next one.
func TestRowsApart(t *testing.T) { // P6.9
	b := New(grown(t, sym(0), sym(1), bin(api.And, 0, 1)))
	bits(t, b, 2)
	f, want := b.Formula(), b.Formula()
	for i := range f.Clauses {
		_ = append(f.Clauses[i], 0, 0, 0)
	}
	for i, c := range f.Clauses {
		if !slices.Equal(c, want.Clauses[i]) {
			t.Fatalf("the clause %d: %v, not %v", i, c, want.Clauses[i])
		}
	}
}

// TestShared looks whether gates are kept once: what is made of the same is the same, in whichever order.
func TestShared(t *testing.T) { // P6.5
	g := grown(t, sym(0), sym(1), sym(2), bin(api.Add, 0, 1), bin(api.Add, 1, 0), bin(api.Mul, 0, 1), bin(api.Mul, 1, 0), bin(api.Sub, 0, 1), bin(api.LtU, 0, 1), bin(api.Eq, 0, 1), bin(api.Eq, 1, 0))
	b := New(g)
	for id := range term.ID(g.Size()) {
		bits(t, b, id)
	}
	for _, p := range [][2]term.ID{{3, 4}, {5, 6}, {9, 10}} {
		if !slices.Equal(bits(t, b, p[0]), bits(t, b, p[1])) {
			t.Errorf("%s and %s", g.Text(p[0]), g.Text(p[1]))
		}
	}
	n := len(b.Formula().Clauses)
	if differ, _ := b.Differ(0, 1); differ != -bits(t, b, 9)[0] || len(b.Formula().Clauses) != n {
		t.Error("Differ is not the other one of Eq")
	}
}

func TestExamples(t *testing.T) { // the chapter's
	g := grown(t, number(5), sym(0), number(1), bin(api.Add, 1, 2))
	b := New(g)
	truth, ok := b.Truth(0)
	differ, is := b.Differ(1, 1)
	if !ok || !is {
		t.Fatal("none")
	}
	for _, n := range edges {
		if model := b.Model(value.Env{Syms: []int64{n}}); !holds(model, truth) || holds(model, differ) {
			t.Errorf("in the model of %d: %t, %t", n, holds(model, truth), holds(model, differ))
		}
	}
	if l := bits(t, b, 3); tells(b.Model(value.Env{Syms: []int64{4}}), l) != 5 {
		t.Error("4 + 1")
	}
}

package value

import (
	"math"
	"math/rand"
	"slices"
	"testing"

	"proofmark/api"
	"proofmark/term"
	"proofmark/word"
)

func sym(n int64) term.Node                     { return term.Node{Kind: term.Sym, N: n} }
func number(n int64) term.Node                  { return term.Node{Kind: term.Const, N: n} }
func bin(op api.Op, x, y term.ID) term.Node     { return term.Node{Kind: term.Bin, Op: op, X: x, Y: y} }
func cell(a int, v int64, at term.ID) term.Node { return term.Node{Kind: term.Cell, A: a, N: v, Y: at} }

// grown is a graph of the nodes, of which each must become the next term.
func grown(t *testing.T, nodes ...term.Node) *term.Graph {
	t.Helper()
	g := term.New()
	for i, n := range nodes {
		if id := g.Add(n); id != term.ID(i) {
			t.Fatalf("Add %+v: %d, not %d", n, id, i)
		}
	}
	return g
}

// few is the chapter's graph: 0 s0, 1 the Const 5, 2 (s0 + 5), 3 a1v0[(s0 + 5)].
func few(t *testing.T) *term.Graph {
	return grown(t, sym(0), number(5), bin(api.Add, 0, 1), cell(1, 0, 2))
}

// noTerms are numbers of none in a graph of so many terms.
func noTerms(size int) []term.ID {
	return []term.ID{term.None, -2, math.MinInt, math.MinInt32, term.ID(size), term.ID(size) + 1, math.MaxInt32, math.MaxInt}
}

// emptyGraphs are graphs without terms.
func emptyGraphs() map[string]*term.Graph {
	return map[string]*term.Graph{"nil": nil, "new": term.New(), "by hand": {}}
}

// of asks for the value of one term that is there.
func of(t *testing.T, g *term.Graph, e Env, id term.ID) int64 {
	t.Helper()
	n, ok := Of(g, e, id)
	if !ok {
		t.Fatalf("Of(%d): none", id)
	}
	return n
}

func TestEnvSym(t *testing.T) { // P3.1
	e := Env{Syms: []int64{100, -7, math.MinInt64}}
	for k, want := range map[int64]int64{0: 100, 1: -7, 2: math.MinInt64, 3: 0, 4: 0, -1: 0, -2: 0, -3: 0, math.MaxInt64: 0, math.MinInt64: 0, 1 << 32: 0, 1<<32 + 1: 0, math.MinInt64 + 1: 0} {
		if n := e.Sym(k); n != want {
			t.Errorf("Sym(%d): %d, not %d", k, n, want)
		}
	}
	for _, none := range []Env{{}, {Syms: []int64{}}, {Syms: []int64{9, 9}[:0]}} {
		for _, k := range []int64{-1, 0, 1, math.MaxInt64, math.MinInt64} {
			if n := none.Sym(k); n != 0 {
				t.Errorf("of none, Sym(%d): %d", k, n)
			}
		}
	}
}

// manyCells has cells that differ in one of what they are of, and some that are of the same.
func manyCells() Env {
	return Env{Cells: []Cell{
		{2, 3, 12, -1}, {2, 3, 12, 9}, {2, 4, 12, 8}, {3, 3, 12, 7}, {2, 3, -1, 6}, {3, 2, 12, 5}, {2, 12, 3, 4}, {0, 0, 0, 0}, {0, 0, 0, 3},
		{math.MaxInt, math.MaxInt64, math.MinInt64, math.MinInt64}, {-1, -2, -3, 44}, {2, 3, 12, 10}, {1, 3, 0, 0}, {1, 3, 1, math.MaxInt64},
	}}
}

func TestEnvCell(t *testing.T) { // P3.1
	e := manyCells()
	for _, x := range []struct {
		array             int
		version, at, want int64
	}{
		{2, 3, 12, -1}, {2, 4, 12, 8}, {3, 3, 12, 7}, {2, 3, -1, 6}, {3, 2, 12, 5}, {2, 12, 3, 4}, {0, 0, 0, 0},
		{math.MaxInt, math.MaxInt64, math.MinInt64, math.MinInt64}, {-1, -2, -3, 44}, {1, 3, 0, 0}, {1, 3, 1, math.MaxInt64},
		{2, 3, 13, 0}, {2, 5, 12, 0}, {4, 3, 12, 0}, {12, 2, 3, 0}, {-2, -3, -1, 0}, {0, 0, 1, 0}, {math.MinInt, math.MinInt64, math.MinInt64, 0},
	} {
		if n := e.Cell(x.array, x.version, x.at); n != x.want {
			t.Errorf("Cell(%d, %d, %d): %d, not %d", x.array, x.version, x.at, n, x.want)
		}
	}
	for _, none := range []Env{{}, {Cells: []Cell{}}, {Cells: []Cell{{0, 0, 0, 5}}[:0]}} {
		if none.Cell(0, 0, 0) != 0 || none.Cell(-1, -1, -1) != 0 {
			t.Error("of none")
		}
	}
}

func TestOfEachKind(t *testing.T) { // P3.2
	g := grown(t, number(math.MinInt64), sym(1), sym(0), sym(2), sym(math.MaxInt64), bin(api.Sub, 1, 2), cell(2, 3, 5), bin(api.Mul, 6, 6), cell(2, 3, 6), cell(2, 4, 5), cell(2, 3, 3), cell(1, 3, 3))
	e := manyCells()
	e.Syms = []int64{-5, 7}
	for id, want := range []int64{math.MinInt64, 7, -5, 0, 0, 12, -1, 1, 6, 8, 0, 0} {
		if n := of(t, g, e, term.ID(id)); n != want {
			t.Errorf("Of(%d), %s: %d, not %d", id, g.Text(term.ID(id)), n, want)
		}
	}
	for id, want := range []int64{math.MinInt64, 0, 0, 0, 0, 0, 0, 0, 0, 0, 0, 0} {
		if n := of(t, g, Env{}, term.ID(id)); n != want {
			t.Errorf("of nothing, Of(%d): %d, not %d", id, n, want)
		}
	}
}

func TestOfEachOp(t *testing.T) { // P3.2
	l := []int64{math.MinInt64, -64, -7, -1, 0, 1, 2, 63, 64, 1 << 32, math.MaxInt64}
	for op := api.Add; op <= api.Eq; op++ {
		g := grown(t, sym(0), sym(1), bin(op, 0, 1), bin(op, 1, 0), bin(op, 2, 0), bin(op, 1, 2), bin(op, 0, 0))
		for _, a := range l {
			for _, b := range l {
				e, ab := Env{Syms: []int64{a, b}}, word.Do(op, a, b)
				want := []int64{a, b, ab, word.Do(op, b, a), word.Do(op, ab, a), word.Do(op, b, ab), word.Do(op, a, a)}
				if got, ok := All(g, e, 0, 1, 2, 3, 4, 5, 6); !ok || !slices.Equal(got, want) {
					t.Fatalf("op %d of %d, %d: %v, not %v", op, a, b, got, want)
				}
			}
		}
	}
}

func TestOfNone(t *testing.T) { // P3.2
	e := Env{Syms: []int64{7}, Cells: []Cell{{1, 0, 12, 40}, {0, 0, 0, 9}}}
	for _, id := range noTerms(4) {
		if n, ok := Of(few(t), e, id); n != 0 || ok {
			t.Errorf("Of(%d): %d, %t", id, n, ok)
		}
	}
	for name, g := range emptyGraphs() {
		for _, id := range append(noTerms(0), 1, 2) {
			if n, ok := Of(g, e, id); n != 0 || ok {
				t.Errorf("%s, Of(%d): %d, %t", name, id, n, ok)
			}
		}
	}
}

func TestAll(t *testing.T) { // P3.3
	g, e := few(t), Env{Syms: []int64{7}, Cells: []Cell{{1, 0, 12, 40}}}
	for _, x := range []struct {
		ids  []term.ID
		want []int64
	}{
		{nil, nil}, {[]term.ID{}, nil}, {[]term.ID{0}, []int64{7}}, {[]term.ID{3, 2, 1, 0}, []int64{40, 12, 5, 7}}, {[]term.ID{0, 1, 2, 3}, []int64{7, 5, 12, 40}},
		{[]term.ID{2, 2, 2}, []int64{12, 12, 12}}, {[]term.ID{1, 3, 1, 0, 3}, []int64{5, 40, 5, 7, 40}},
	} {
		if got, ok := All(g, e, x.ids...); !ok || !slices.Equal(got, x.want) {
			t.Errorf("All(%v): %v, %t, not %v", x.ids, got, ok, x.want)
		}
	}
}

func TestAllOfNone(t *testing.T) { // P3.3
	g, e := few(t), Env{Syms: []int64{7}}
	for _, id := range noTerms(4) {
		for _, ids := range [][]term.ID{{id}, {id, 0}, {0, id}, {0, id, 1}, {id, id}, {3, 2, 1, 0, id}} {
			if got, ok := All(g, e, ids...); len(got) != 0 || ok {
				t.Errorf("All(%v): %v, %t", ids, got, ok)
			}
		}
	}
	for name, g := range emptyGraphs() {
		if got, ok := All(g, e); len(got) != 0 || !ok {
			t.Errorf("%s, All(): %v, %t", name, got, ok)
		}
		for _, id := range append(noTerms(0), 1, 2) {
			if got, ok := All(g, e, id, 0); len(got) != 0 || ok {
				t.Errorf("%s, All(%d, 0): %v, %t", name, id, got, ok)
			}
		}
	}
}

// P3.3: the text of each term here is twice as long as that of the one ahead, and terms stand as deep as there are any.
func TestFarGrown(t *testing.T) {
	g := term.New()
	twice, inner := g.Add(sym(0)), g.Add(sym(1))
	for range 200000 {
		twice = g.Add(bin(api.Add, twice, twice))
		inner = g.Add(cell(1, 2, inner))
	}
	e := Env{Syms: []int64{1, 5}, Cells: []Cell{{1, 2, 5, 6}, {1, 2, 6, 5}}}
	if of(t, g, e, 2+2*(10-1)) != 1<<10 || of(t, g, e, 2+2*(63-1)) != math.MinInt64 || of(t, g, e, twice) != 0 {
		t.Error("terms of twice the one ahead")
	}
	if of(t, g, e, inner) != 5 || of(t, g, e, inner-2) != 6 {
		t.Error("cells within one another")
	}
	syms, needed := Needs(g, inner, twice)
	if !slices.Equal(syms, []int64{0, 1}) || len(needed) != 200000 || needed[0] != 3 || needed[199999] != inner {
		t.Errorf("Needs: %v, %d cells", syms, len(needed))
	}
}

func TestTimeOfFew(t *testing.T) { // P3.3: what a graph has beside takes no time
	g := few(t)
	for n := range int64(300000) {
		g.Add(number(n))
	}
	e := Env{Syms: []int64{7}, Cells: []Cell{{1, 0, 12, 40}}}
	for range 100000 {
		if of(t, g, e, 3) != 40 {
			t.Fatal("Of(3)")
		}
	}
}

func TestManyCells(t *testing.T) { // P3.2, P3.3: as many cells as terms that ask for them, the first of each twice there
	const many = 100000
	g, e := term.New(), Env{Syms: []int64{3}}
	at := g.Add(sym(0))
	var ids []term.ID
	for n := range int64(many) {
		ids = append(ids, g.Add(cell(int(n%5), n, at)))
		e.Cells = append(e.Cells, Cell{int(n % 5), n, 3, n * n}, Cell{int(n % 5), n, 3, -1}, Cell{int(n % 5), n, 4, -2})
	}
	got, ok := All(g, e, ids...)
	if !ok || len(got) != many {
		t.Fatalf("All: %d, %t", len(got), ok)
	}
	for n := range int64(many) {
		if got[n] != n*n {
			t.Fatalf("a%dv%d: %d", n%5, n, got[n])
		}
	}
}

func TestNeeds(t *testing.T) { // P3.4
	g := grown(t, sym(9), sym(3), cell(0, 0, 0), cell(1, 0, 2), number(4), bin(api.Add, 1, 3), bin(api.Mul, 4, 4), sym(math.MaxInt64), cell(0, 0, 7), bin(api.Sub, 0, 7), cell(2, 5, 4))
	for _, x := range []struct {
		ids   []term.ID
		syms  []int64
		cells []term.ID
	}{
		{nil, nil, nil}, {[]term.ID{4}, nil, nil}, {[]term.ID{6, 4}, nil, nil}, {[]term.ID{0}, []int64{9}, nil}, {[]term.ID{0, 1}, []int64{3, 9}, nil}, {[]term.ID{1, 0, 1}, []int64{3, 9}, nil},
		{[]term.ID{2}, []int64{9}, []term.ID{2}}, {[]term.ID{3}, []int64{9}, []term.ID{2, 3}}, {[]term.ID{5}, []int64{3, 9}, []term.ID{2, 3}}, {[]term.ID{10}, nil, []term.ID{10}},
		{[]term.ID{9}, []int64{9, math.MaxInt64}, nil}, {[]term.ID{10, 8, 5, 8}, []int64{3, 9, math.MaxInt64}, []term.ID{2, 3, 8, 10}},
		{noTerms(11), nil, nil}, {append(noTerms(11), 3), []int64{9}, []term.ID{2, 3}}, {append([]term.ID{8, term.None}, noTerms(11)...), []int64{math.MaxInt64}, []term.ID{8}},
	} {
		if syms, cells := Needs(g, x.ids...); !slices.Equal(syms, x.syms) || !slices.Equal(cells, x.cells) {
			t.Errorf("Needs(%v): %v, %v, not %v, %v", x.ids, syms, cells, x.syms, x.cells)
		}
	}
	for name, g := range emptyGraphs() {
		if syms, cells := Needs(g, append(noTerms(0), 1)...); len(syms) != 0 || len(cells) != 0 {
			t.Errorf("%s: %v, %v", name, syms, cells)
		}
	}
}

func TestOnlyRead(t *testing.T) { // P3.5
	g := few(t)
	ids := []term.ID{3, 1, 0, 42, 43}
	syms := []int64{7, 8, 9, 42}
	cells := []Cell{{1, 0, 12, 40}, {1, 0, 12, 41}, {2, 2, 2, 42}}
	e := Env{Syms: syms[:3], Cells: cells[:2]}
	for range 2 {
		if got, ok := All(g, e, ids[:3]...); !ok || !slices.Equal(got, []int64{40, 5, 7}) {
			t.Errorf("All: %v, %t", got, ok)
		}
		Needs(g, ids[:3]...)
		if _, ok := All(g, e, ids...); ok || of(t, g, e, 3) != 40 || e.Sym(3) != 0 || e.Cell(2, 2, 2) != 0 {
			t.Error("what lies behind a list is told")
		}
	}
	if !slices.Equal(ids, []term.ID{3, 1, 0, 42, 43}) || !slices.Equal(syms, []int64{7, 8, 9, 42}) || !slices.Equal(cells, []Cell{{1, 0, 12, 40}, {1, 0, 12, 41}, {2, 2, 2, 42}}) {
		t.Errorf("changed: %v, %v, %v", ids, syms, cells)
	}
	if n, _ := g.Node(3); g.Size() != 4 || n != cell(1, 0, 2) || g.Add(sym(1)) != 4 {
		t.Errorf("asking changed the graph: %d terms", g.Size())
	}
}

func TestNewMemory(t *testing.T) { // P3.5
	g, e := few(t), Env{Syms: []int64{7}, Cells: []Cell{{1, 0, 12, 40}}}
	first, _ := All(g, e, 0, 3)
	second, _ := All(g, e, 0, 3)
	first[0], first[1] = 70, 71
	if third, _ := All(g, e, 0, 3); !slices.Equal(second, []int64{7, 40}) || !slices.Equal(third, second) || e.Sym(0) != 7 {
		t.Errorf("answers of All share memory: %v, %v", second, third)
	}
	syms, cells := Needs(g, 3)
	moreSyms, moreCells := Needs(g, 3)
	syms[0], cells[0] = 70, 71
	if !slices.Equal(moreSyms, []int64{0}) || !slices.Equal(moreCells, []term.ID{3}) {
		t.Errorf("answers of Needs share memory: %v, %v", moreSyms, moreCells)
	}
	one := []term.ID{3}
	if _, cells := Needs(g, one...); &cells[0] == &one[0] {
		t.Error("Needs answers what was handed in")
	}
}

func TestNothingIsKept(t *testing.T) { // P3.5: what is changed behind a call is told by the next one
	g, e := few(t), Env{Syms: []int64{7}, Cells: []Cell{{1, 0, 12, 40}}}
	if of(t, g, e, 3) != 40 {
		t.Error("ahead")
	}
	e.Cells[0].N = 50
	if of(t, g, e, 3) != 50 {
		t.Error("another N")
	}
	e.Syms[0] = 8
	if of(t, g, e, 3) != 0 || of(t, g, e, 2) != 13 {
		t.Error("another symbol")
	}
}

// chanceGraph is a graph of terms by chance, and chanceEnv tells of most of its symbols and cells; the places are small, so that cells are found.
func chanceGraph(r *rand.Rand) *term.Graph {
	g := term.New()
	for range 60 {
		id := func() term.ID { return term.ID(r.Intn(g.Size() + 1)) }
		switch r.Intn(5) {
		case 0:
			g.Add(number(r.Int63n(7) - 3))
		case 1:
			g.Add(sym(r.Int63n(6)))
		case 2:
			g.Add(cell(r.Intn(2), r.Int63n(2), id()))
		default:
			g.Add(bin(api.Op(1+r.Intn(16)), id(), id()))
		}
	}
	return g
}

func chanceEnv(r *rand.Rand) Env {
	var e Env
	for range r.Intn(7) {
		e.Syms = append(e.Syms, r.Int63n(7)-3)
	}
	for range r.Intn(60) {
		e.Cells = append(e.Cells, Cell{r.Intn(2), r.Int63n(2), r.Int63n(9) - 4, r.Int63n(7) - 3})
	}
	return e
}

// told is a term's value by the words of the chapter.
func told(g *term.Graph, e Env, id term.ID) int64 {
	n, _ := g.Node(id)
	switch n.Kind {
	case term.Const:
		return n.N
	case term.Sym:
		return e.Sym(n.N)
	case term.Cell:
		return e.Cell(n.A, n.N, told(g, e, n.Y))
	}
	return word.Do(n.Op, told(g, e, n.X), told(g, e, n.Y))
}

// onlyNeeded is an environment that tells the same of what id needs, and something else of all else.
func onlyNeeded(r *rand.Rand, g *term.Graph, e Env, id term.ID) Env {
	syms, cells := Needs(g, id)
	var less Env
	for k := range int64(9) {
		n := r.Int63()
		if slices.Contains(syms, k) {
			n = e.Sym(k)
		}
		less.Syms = append(less.Syms, n)
	}
	for _, c := range cells {
		n, _ := g.Node(c)
		at := told(g, e, n.Y)
		less.Cells = append(less.Cells, Cell{n.A, n.N, at, e.Cell(n.A, n.N, at)})
	}
	for a := range 2 {
		for at := int64(-4); at < 5; at++ { // behind those that are needed: these come first only where none is
			less.Cells = append(less.Cells, Cell{a, 0, at, r.Int63()}, Cell{a, 1, at, r.Int63()})
		}
	}
	return less
}

func TestByChance(t *testing.T) { // P3.2, P3.3, P3.6
	r := rand.New(rand.NewSource(3))
	for range 300 {
		g, e := chanceGraph(r), chanceEnv(r)
		var ids []term.ID
		var want []int64
		for id := range term.ID(g.Size()) {
			ids, want = append(ids, id), append(want, told(g, e, id))
			if n := of(t, g, e, id); n != want[id] {
				t.Fatalf("Of %s: %d, not %d", g.Text(id), n, want[id])
			}
			if n := of(t, g, onlyNeeded(r, g, e, id), id); n != want[id] {
				t.Fatalf("%s hangs on what it does not need: %d, not %d", g.Text(id), n, want[id])
			}
		}
		if got, ok := All(g, e, ids...); !ok || !slices.Equal(got, want) {
			t.Fatalf("All: %v, %t, not %v", got, ok, want)
		}
	}
}

func TestAddingChangesNone(t *testing.T) { // P3.6
	r := rand.New(rand.NewSource(6))
	g, e := chanceGraph(r), chanceEnv(r)
	var ids []term.ID
	for id := range term.ID(g.Size()) {
		ids = append(ids, id)
	}
	was, _ := All(g, e, ids...)
	syms, cells := Needs(g, ids...)
	for n := range int64(500) {
		g.Add(cell(int(n), n, g.Add(bin(api.Mul, g.Add(sym(100+n)), ids[n%int64(len(ids))]))))
	}
	for id := range term.ID(len(ids)) {
		if n, _ := g.Node(id); g.Add(n) != id || of(t, g, e, id) != was[id] {
			t.Errorf("%s became another", g.Text(id))
		}
	}
	moreSyms, moreCells := Needs(g, ids...)
	if !slices.Equal(syms, moreSyms) || !slices.Equal(cells, moreCells) {
		t.Errorf("Needs: %v, %v, not %v, %v", moreSyms, moreCells, syms, cells)
	}
}

func TestExamples(t *testing.T) { // the end of the chapter
	g := few(t)
	for _, x := range []struct {
		e    Env
		id   term.ID
		want int64
		ok   bool
	}{
		{Env{Syms: []int64{7}}, 2, 12, true}, {Env{}, 2, 5, true}, {Env{Syms: []int64{7}}, 9, 0, false},
		{Env{Syms: []int64{7}, Cells: []Cell{{1, 0, 12, 40}}}, 3, 40, true},
	} {
		if n, ok := Of(g, x.e, x.id); n != x.want || ok != x.ok {
			t.Errorf("Of(%+v; %d): %d, %t, not %d, %t", x.e, x.id, n, ok, x.want, x.ok)
		}
	}
	if syms, cells := Needs(g, 3); !slices.Equal(syms, []int64{0}) || !slices.Equal(cells, []term.ID{3}) {
		t.Errorf("Needs(3): %v, %v", syms, cells)
	}
}

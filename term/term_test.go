package term

import (
	"math"
	"math/rand"
	"slices"
	"strings"
	"testing"

	"proofmark/api"
)

func sym(n int64) Node                { return Node{Kind: Sym, N: n} }
func number(n int64) Node             { return Node{Kind: Const, N: n} }
func bin(op api.Op, x, y ID) Node     { return Node{Kind: Bin, Op: op, X: x, Y: y} }
func cell(a int, v int64, at ID) Node { return Node{Kind: Cell, A: a, N: v, Y: at} }

// grown is a graph of the nodes, of which each must become the next term.
func grown(t *testing.T, nodes ...Node) *Graph {
	t.Helper()
	g := New()
	for i, n := range nodes {
		if id := g.Add(n); id != ID(i) {
			t.Fatalf("Add %+v: %d, not %d", n, id, i)
		}
	}
	return g
}

// few is the graph that most tests ask: 0 s0, 1 the Const 5, 2 (s0 + 5), 3 a1v0[(s0 + 5)].
func few(t *testing.T) *Graph {
	return grown(t, sym(0), number(5), bin(api.Add, 0, 1), cell(1, 0, 2))
}

// noTerms are numbers of none in a graph of so many terms.
func noTerms(size int) []ID {
	return []ID{None, -2, math.MinInt, math.MinInt32, ID(size), ID(size) + 1, math.MaxInt32, math.MaxInt}
}

// P2.1
func TestNew(t *testing.T) {
	g := New()
	if g == nil || g.Size() != 0 {
		t.Fatalf("New: %v", g)
	}
	asksNothing(t, g)
	if g.Add(sym(3)) != 0 || New().Size() != 0 || New().Add(sym(4)) != 0 {
		t.Error("graphs share terms")
	}
}

// P2.1
func TestNilGraph(t *testing.T) {
	var g *Graph
	for _, n := range []Node{{}, sym(0), number(0), cell(0, 0, 0), bin(api.Add, 0, 0)} {
		if id := g.Add(n); id != None {
			t.Errorf("Add %+v: %d", n, id)
		}
	}
	if g.Size() != 0 {
		t.Errorf("Size: %d", g.Size())
	}
	asksNothing(t, g)
}

// asksNothing asks a graph of no terms.
func asksNothing(t *testing.T, g *Graph) {
	t.Helper()
	for _, id := range append(noTerms(0), 1, 2) {
		if n, ok := g.Node(id); n != (Node{}) || ok {
			t.Errorf("Node(%d): %+v, %t", id, n, ok)
		}
		if u := g.Uses(id, 0, id); len(u) != 0 {
			t.Errorf("Uses(%d): %v", id, u)
		}
		if g.Deep(id) != 0 || g.Text(id) != "" {
			t.Errorf("Deep, Text of %d: %d, %q", id, g.Deep(id), g.Text(id))
		}
	}
	if u := g.Uses(); len(u) != 0 {
		t.Errorf("Uses(): %v", u)
	}
}

// P2.1: a graph made by hand is one without terms, too.
func TestZeroGraph(t *testing.T) {
	var g Graph
	asksNothing(t, &g)
	if g.Add(sym(0)) != 0 || g.Add(number(1)) != 1 || g.Add(sym(0)) != 0 || g.Size() != 2 {
		t.Errorf("Add: %d terms", g.Size())
	}
}

// P2.2
func TestAddOnce(t *testing.T) {
	g := New()
	nodes := []Node{
		sym(0), number(0), sym(1), number(1), number(-1), number(math.MinInt64), number(math.MaxInt64), sym(math.MaxInt64),
		cell(0, 0, 0), cell(1, 0, 0), cell(0, 1, 0), cell(0, 0, 1), cell(math.MaxInt, math.MaxInt64, 10), cell(0, 0, 8),
		bin(api.Add, 0, 0), bin(api.Add, 0, 1), bin(api.Add, 1, 0), bin(api.Sub, 0, 1), bin(api.Eq, 14, 15),
	}
	for round := 0; round < 3; round++ {
		for i, n := range nodes {
			if id := g.Add(n); id != ID(i) {
				t.Errorf("round %d: Add %+v: %d, not %d", round, n, id, i)
			}
		}
		if g.Size() != len(nodes) {
			t.Errorf("round %d: %d terms", round, g.Size())
		}
	}
}

// P2.2
func TestAddEachOp(t *testing.T) {
	g := grown(t, sym(0), sym(1))
	for op := 0; op < 256; op++ {
		want := None
		if op >= 1 && op <= 16 {
			want = ID(op + 1)
		}
		if id := g.Add(bin(api.Op(op), 0, 1)); id != want {
			t.Errorf("Add of op %d: %d, not %d", op, id, want)
		}
	}
	if g.Size() != 18 {
		t.Errorf("%d terms", g.Size())
	}
}

// P2.2
func TestAddRefuses(t *testing.T) {
	g := few(t)
	bad := []Node{
		{}, {N: 1}, {Y: 1},
		{Kind: Const, A: 1}, {Kind: Const, N: 5, A: -1}, {Kind: Const, N: 5, Op: api.Add}, {Kind: Const, N: 5, X: 1}, {Kind: Const, N: 5, Y: 1}, {Kind: Const, N: 5, X: None}, {Kind: Const, N: 5, Y: None},
		{Kind: Sym, N: -1}, {Kind: Sym, N: math.MinInt64}, {Kind: Sym, A: 1}, {Kind: Sym, A: -1}, {Kind: Sym, Op: api.Eq}, {Kind: Sym, X: 2}, {Kind: Sym, Y: 2}, {Kind: Sym, X: None}, {Kind: Sym, Y: None},
		{Kind: Cell, A: -1, Y: 2}, {Kind: Cell, A: math.MinInt, Y: 2}, {Kind: Cell, N: -1, Y: 2}, {Kind: Cell, N: math.MinInt64, Y: 2}, {Kind: Cell, Y: 2, Op: api.Add}, {Kind: Cell, Y: 2, X: 1}, {Kind: Cell, Y: 2, X: None},
		{Kind: Bin, Op: api.Add, X: 0, Y: 1, N: 1}, {Kind: Bin, Op: api.Add, X: 0, Y: 1, N: -1}, {Kind: Bin, Op: api.Add, X: 0, Y: 1, A: 1}, {Kind: Bin, Op: api.Add, X: 0, Y: 1, A: -1},
	}
	for kind := 5; kind < 256; kind++ {
		bad = append(bad, Node{Kind: uint8(kind)}, Node{Kind: uint8(kind), Op: api.Add, X: 0, Y: 1})
	}
	for _, id := range noTerms(4) {
		bad = append(bad, bin(api.Add, id, 0), bin(api.Add, 0, id), bin(api.Add, id, id), cell(0, 0, id))
	}
	for _, n := range bad {
		if id := g.Add(n); id != None {
			t.Errorf("Add %+v: %d", n, id)
		}
	}
	if g.Size() != 4 || g.Add(sym(1)) != 4 {
		t.Errorf("what was refused was added: %d terms", g.Size())
	}
	if g.Add(bin(api.Add, 0, 4)) != 5 {
		t.Error("a term that came later is no part")
	}
}

// P2.3
func TestNode(t *testing.T) {
	g := few(t)
	for i, want := range []Node{sym(0), number(5), bin(api.Add, 0, 1), cell(1, 0, 2)} {
		if n, ok := g.Node(ID(i)); n != want || !ok {
			t.Errorf("Node(%d): %+v, %t", i, n, ok)
		}
		if g.Size() != 4 {
			t.Errorf("Size: %d", g.Size())
		}
	}
	for _, id := range noTerms(4) {
		if n, ok := g.Node(id); n != (Node{}) || ok {
			t.Errorf("Node(%d): %+v, %t", id, n, ok)
		}
	}
}

// P2.4
func TestUses(t *testing.T) {
	g := few(t)
	g.Add(number(7))               // 4
	g.Add(bin(api.Mul, 4, 4))      // 5
	g.Add(bin(api.Sub, 3, 1))      // 6
	g.Add(bin(api.Xor, 6, 2))      // 7
	g.Add(cell(2, math.MaxInt, 5)) // 8
	for _, x := range []struct{ roots, want []ID }{
		{nil, nil}, {[]ID{}, nil}, {[]ID{0}, []ID{0}}, {[]ID{1}, []ID{1}}, {[]ID{2}, []ID{0, 1, 2}}, {[]ID{3}, []ID{0, 1, 2, 3}},
		{[]ID{5}, []ID{4, 5}}, {[]ID{6}, []ID{0, 1, 2, 3, 6}}, {[]ID{7}, []ID{0, 1, 2, 3, 6, 7}}, {[]ID{8}, []ID{4, 5, 8}},
		{[]ID{8, 1, 8, 1}, []ID{1, 4, 5, 8}}, {[]ID{5, 4, 0}, []ID{0, 4, 5}}, {[]ID{8, 7}, []ID{0, 1, 2, 3, 4, 5, 6, 7, 8}},
		{noTerms(9), nil}, {append(noTerms(9), 2, None), []ID{0, 1, 2}}, {append([]ID{2}, noTerms(9)...), []ID{0, 1, 2}},
	} {
		if u := g.Uses(x.roots...); !slices.Equal(u, x.want) {
			t.Errorf("Uses(%v): %v, not %v", x.roots, u, x.want)
		}
	}
}

// P2.5
func TestDeep(t *testing.T) {
	g := few(t)
	g.Add(bin(api.Sub, 3, 0)) // 4
	g.Add(bin(api.Sub, 0, 3)) // 5
	g.Add(bin(api.Sub, 4, 5)) // 6
	g.Add(cell(0, 0, 1))      // 7
	for id, want := range []int{1, 1, 2, 3, 4, 4, 5, 2} {
		if d := g.Deep(ID(id)); d != want {
			t.Errorf("Deep(%d): %d, not %d", id, d, want)
		}
	}
	for _, id := range noTerms(8) {
		if d := g.Deep(id); d != 0 {
			t.Errorf("Deep(%d): %d", id, d)
		}
	}
}

// P2.6
func TestText(t *testing.T) {
	g := few(t)
	g.Add(number(math.MinInt64))          // 4
	g.Add(sym(math.MaxInt64))             // 5
	g.Add(bin(api.Mul, 2, 3))             // 6
	g.Add(cell(math.MaxInt, 12, 4))       // 7
	g.Add(cell(0, math.MaxInt64, 7))      // 8
	g.Add(number(0))                      // 9
	g.Add(bin(api.Sub, g.Add(sym(1)), 4)) // 11
	for id, want := range map[ID]string{
		0: "s0", 1: "5", 2: "(s0 + 5)", 3: "a1v0[(s0 + 5)]", 4: "-9223372036854775808", 5: "s9223372036854775807",
		6: "((s0 + 5) * a1v0[(s0 + 5)])", 7: "a9223372036854775807v12[-9223372036854775808]",
		8: "a0v9223372036854775807[a9223372036854775807v12[-9223372036854775808]]", 9: "0", 10: "s1", 11: "(s1 - -9223372036854775808)",
	} {
		if s := g.Text(id); s != want {
			t.Errorf("Text(%d): %q, not %q", id, s, want)
		}
	}
	for _, id := range noTerms(12) {
		if s := g.Text(id); s != "" {
			t.Errorf("Text(%d): %q", id, s)
		}
	}
}

// P2.6
func TestTextSigns(t *testing.T) {
	g := grown(t, sym(0), number(-5))
	for op, sign := range map[api.Op]string{
		api.Add: "+", api.Sub: "-", api.Mul: "*", api.Div: "/", api.Rem: "%", api.DivU: "/u", api.RemU: "%u", api.And: "&",
		api.Or: "|", api.Xor: "^", api.Shl: "<<", api.Shr: ">>u", api.Sar: ">>", api.Lt: "<", api.LtU: "<u", api.Eq: "==",
	} {
		if s := g.Text(g.Add(bin(op, 0, 1))); s != "(s0 "+sign+" -5)" {
			t.Errorf("op %d: %q", op, s)
		}
	}
}

// longText adds a term whose text has just so many bytes (at least 12), all of it by the shape that grow has.
func longText(g *Graph, bytes int, grow func(text, more ID) Node, each int) ID {
	id, has := g.Add(sym(0)), 2
	for has+each+19 < bytes {
		id, has = g.Add(grow(id, g.Add(number(7)))), has+each+1
	}
	for has < bytes {
		digits := min(bytes-has-5, 19)
		if rest := bytes - has - 5 - digits; rest > 0 && rest < 6 {
			digits -= 6
		}
		id, has = g.Add(bin(api.Add, id, g.Add(number(int64(math.Pow10(digits-1)))))), has+5+digits
	}
	return id
}

// P2.6
func TestTextLimit(t *testing.T) {
	for name, grow := range map[string]func(text, more ID) Node{
		"left":  func(text, more ID) Node { return bin(api.Sub, text, more) },
		"right": func(text, more ID) Node { return bin(api.Sub, more, text) },
	} {
		for bytes := 65500; bytes <= 65570; bytes++ {
			g := New()
			id := longText(g, bytes, grow, 5)
			want := bytes
			if bytes > 65536 {
				want = 0
			}
			if s := g.Text(id); len(s) != want {
				t.Errorf("%s, of %d bytes: %d", name, bytes, len(s))
			}
			if above := g.Text(g.Add(cell(0, 0, id))); len(above) != 0 && (want == 0 || above != "a0v0["+g.Text(id)+"]" || len(above) > 65536) {
				t.Errorf("%s, of %d bytes in a Cell: %d", name, bytes, len(above))
			}
		}
	}
}

// P2.6: a Cell's text at the limit, and one past it.
func TestTextLimitCell(t *testing.T) {
	g := New()
	id := g.Add(sym(0))
	for n := 2; n+6 <= 65536; n += 6 {
		id = g.Add(cell(0, 0, id))
	}
	if s := g.Text(id); len(s) != 65534 || s != strings.Repeat("a0v0[", 10922)+"s0"+strings.Repeat("]", 10922) {
		t.Errorf("%d bytes", len(s))
	}
	inner, _ := g.Node(id)
	for _, x := range []struct {
		n    Node
		want int
	}{{cell(10, 0, inner.Y), 65535}, {cell(10, 10, inner.Y), 65536}, {cell(100, 10, inner.Y), 0}, {cell(10, 100, inner.Y), 0}} {
		if s := g.Text(g.Add(x.n)); len(s) != x.want {
			t.Errorf("%+v: %d bytes, not %d", x.n, len(s), x.want)
		}
	}
}

// P2.4 to P2.6: texts that grow twofold, and terms that stand deep, end nothing.
func TestFarGrown(t *testing.T) {
	g := New()
	id := g.Add(sym(0))
	for i := 0; i < 200000; i++ {
		id = g.Add(bin(api.Add, id, id))
		if s, short := g.Text(id), i < 13; (s != "") != short {
			t.Fatalf("Text of %d: %d bytes", id, len(s))
		}
	}
	if g.Deep(id) != 200001 || len(g.Uses(id, id-1)) != 200001 || g.Text(id) != "" {
		t.Errorf("Deep, Uses, Text: %d, %d, %q", g.Deep(id), len(g.Uses(id)), g.Text(id))
	}
	if s := g.Text(12); len(s) != 1<<12*2+5*(1<<12-1) {
		t.Errorf("Text(12): %d bytes", len(s))
	}
}

// P2.7
func TestNewMemory(t *testing.T) {
	g := few(t)
	back := []ID{3, 99, 1, 0, 42, 43}
	roots := back[:4]
	first := g.Uses(roots...)
	if !slices.Equal(back, []ID{3, 99, 1, 0, 42, 43}) {
		t.Errorf("Uses changed its roots: %v", back)
	}
	second := g.Uses(roots...)
	for i := range first {
		first[i] = 77
	}
	roots[0] = 0
	if !slices.Equal(second, []ID{0, 1, 2, 3}) || !slices.Equal(g.Uses(3), []ID{0, 1, 2, 3}) {
		t.Errorf("answers of Uses share memory: %v", second)
	}
	one := []ID{0}
	if u := g.Uses(one...); &u[0] == &one[0] {
		t.Error("Uses answers what was handed in")
	}
	if n, _ := g.Node(2); n != bin(api.Add, 0, 1) || g.Size() != 4 {
		t.Errorf("asking changed the graph: %+v", n)
	}
}

// chanceNode is a node near those that may be, of a graph of so many terms.
func chanceNode(r *rand.Rand, size int) Node {
	id := func() ID { return ID(r.Intn(min(size, 6)+2) - 1) }
	switch n := r.Int63n(4) - 1; r.Intn(5) {
	case 0:
		return number(n * 7)
	case 1:
		return sym(n)
	case 2:
		return cell(r.Intn(4)-1, n, id())
	case 3:
		return bin(api.Op(r.Intn(18)), id(), id())
	}
	return Node{Kind: uint8(r.Intn(6)), N: r.Int63n(2), A: r.Intn(2), Op: api.Op(r.Intn(2)), X: ID(r.Intn(2)), Y: ID(r.Intn(2))}
}

// P2.8
func TestSame(t *testing.T) {
	r := rand.New(rand.NewSource(8))
	g, other := New(), New()
	ids, texts := map[Node]ID{}, map[string]ID{}
	var nodes []Node
	for range 20000 {
		n := chanceNode(r, g.Size())
		id := g.Add(n)
		if again := other.Add(n); again != id {
			t.Fatalf("Add %+v: %d and %d", n, id, again)
		}
		if id == None {
			continue
		}
		if was, ok := ids[n]; ok != (int(id) < len(nodes)) || ok && was != id {
			t.Fatalf("Add %+v: %d, was %d %t", n, id, was, ok)
		}
		if _, ok := ids[n]; !ok {
			ids[n], nodes = id, append(nodes, n)
			if was, ok := texts[g.Text(id)]; ok || g.Text(id) == "" {
				t.Fatalf("%d and %d have the text %q", was, id, g.Text(id))
			}
			texts[g.Text(id)] = id
		}
	}
	if g.Size() != len(nodes) || len(nodes) < 100 {
		t.Fatalf("%d terms of %d nodes", g.Size(), len(nodes))
	}
	for i, n := range nodes {
		if is, ok := g.Node(ID(i)); is != n || !ok || texts[g.Text(ID(i))] != ID(i) {
			t.Errorf("term %d: %+v became %+v", i, n, is)
		}
	}
}

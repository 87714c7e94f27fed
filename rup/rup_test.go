package rup

import (
	"math"
	"math/rand"
	"reflect"
	"slices"
	"testing"

	"proofmark/api"
	"proofmark/blast"
	"proofmark/clause"
	"proofmark/sat"
	"proofmark/term"
)

// of is a formula over so many variables.
func of(vars int, clauses ...[]int) clause.Formula {
	return clause.Formula{Vars: vars, Clauses: clauses}
}

// c is a clause.
func c(lits ...int) []int { return lits }

// rows are a proof.
func rows(clauses ...[]int) [][]int { return clauses }

// four is the chapter's formula.
func four() clause.Formula { return of(2, c(1, 2), c(-1, 2), c(1, -2), c(-1, -2)) }

// same tells whether proofs are the same; nil and empty lists are.
func same(a, b [][]int) bool { return slices.EqualFunc(a, b, slices.Equal[[]int]) }

// wrongFormulas are not right.
func wrongFormulas() map[string]clause.Formula {
	return map[string]clause.Formula{
		"below 0":            of(-1),
		"far below 0":        of(math.MinInt),
		"too many variables": of(1<<24 + 1),
		"far too many":       of(math.MaxInt),
		"a 0":                of(2, c(1), c(-1), c(1, 0)),
		"one too far":        of(2, c(1), c(-1), c(3)),
		"one too far, not":   of(2, c(1), c(-1), c(-3)),
		"the least":          of(2, c(1), c(-1), c(math.MinInt)),
		"the greatest":       of(1<<24, c(1), c(-1), c(math.MaxInt)),
		"none to be of":      of(0, c(), c(1)),
		"too many clauses":   of(1, make([][]int, api.MaxClauses+1)...),
	}
}

// slowFollows does as the chapter's words say, for formulas that are far from MaxClauses.
func slowFollows(f clause.Formula, row []int) bool {
	denied := of(f.Vars, slices.Clone(f.Clauses)...)
	for _, l := range row {
		if l == 0 || l > f.Vars || l < -f.Vars {
			return false
		}
		denied.Clauses = append(denied.Clauses, c(-l))
	}
	if !clause.Right(f) {
		return false
	}
	_, says := clause.Clean(row)
	_, found := clause.Units(denied)
	return !says || !found
}

func slowFirst(f clause.Formula, proof [][]int) int {
	for i, row := range proof {
		if !slowFollows(of(f.Vars, slices.Concat(f.Clauses, proof[:i])...), row) {
			return i
		}
	}
	return len(proof)
}

func slowCheck(f clause.Formula, proof [][]int) bool {
	return slowFirst(f, proof) == len(proof) && len(proof) > 0 && len(proof[len(proof)-1]) == 0
}

func slowShort(f clause.Formula, proof [][]int) ([][]int, bool) {
	if !slowCheck(f, proof) {
		return nil, false
	}
	left := slices.Clone(proof)
	for i := len(left) - 2; i >= 0; i-- {
		if fewer := slices.Concat(left[:i], left[i+1:]); slowCheck(f, fewer) {
			left = fewer
		}
	}
	return left, true
}

// anyFormula has few variables and short clauses, so that things meet.
func anyFormula(r *rand.Rand) clause.Formula {
	f := of(1 + r.Intn(6))
	for range r.Intn(4 * f.Vars) {
		f.Clauses = append(f.Clauses, anyClause(r, f.Vars, 1+r.Intn(4)))
	}
	return f
}

// hard is a formula that mostly has no model, of which clauses of one literal alone don't tell.
func hard(r *rand.Rand, vars int) clause.Formula {
	f := of(vars)
	for range 5 * vars {
		f.Clauses = append(f.Clauses, anyClause(r, vars, 3))
	}
	return f
}

func anyClause(r *rand.Rand, vars, long int) []int {
	var lits []int
	for range long {
		lits = append(lits, (1+r.Intn(vars))*(1-2*r.Intn(2)))
	}
	return lits
}

// anyProof is the solver's, if there is one, with other rows in between, most of which hold.
func anyProof(r *rand.Rand, f clause.Formula) [][]int {
	a, _ := sat.Solve(f, 1<<20)
	var proof [][]int
	for _, row := range append(a.Proof, nil) {
		for r.Intn(3) == 0 {
			other := anyClause(r, f.Vars, r.Intn(4))
			if slowFollows(of(f.Vars, slices.Concat(f.Clauses, proof)...), other) || r.Intn(60) == 0 {
				proof = append(proof, other)
			}
		}
		if row != nil || r.Intn(4) == 0 {
			proof = append(proof, row)
		}
	}
	return proof
}

// truths are the lowest bits of n.
func truths(n, vars int) (model []bool) {
	for v := range vars {
		model = append(model, n>>v&1 != 0)
	}
	return model
}

// chain is the formula in which each variable but the last tells the next one.
func chain(vars int) clause.Formula {
	var tells [][]int
	for v := range vars - 1 {
		tells = append(tells, c(-v-1, v+2))
	}
	return of(vars, tells...)
}

func TestFollows(t *testing.T) { // P8.1
	for i, x := range []struct {
		f    clause.Formula
		row  []int
		want bool
	}{
		{four(), c(2), true},
		{four(), c(-2), true},
		{four(), c(1), true},
		{four(), c(2, 2, 1), true},
		{four(), nil, false},
		{four(), c(), false},
		{four(), c(1, -1), true},
		{four(), c(1, -1, 3), false},
		{four(), c(3), false},
		{four(), c(-3), false},
		{four(), c(3, -3), false},
		{four(), c(2, 0), false},
		{four(), c(1, 2, math.MinInt), false},
		{four(), c(1, 2, math.MaxInt), false},
		{of(2, c(1), c(-1)), nil, true},
		{of(2, c(1), c(-1)), c(2), true},
		{of(2, c(1), c(-1)), c(3), false},
		{of(2, c(1), c(-1)), c(0), false},
		{of(0, nil), nil, true},
		{of(0, c()), c(1), false},
		{of(3, c()), c(1), true},
		{clause.Formula{}, nil, false},
		{of(3), c(1), false},
		{of(3), c(-3, 2, 3), true},
		{of(3, c(1, 2)), c(1, 2), true},
		{of(3, c(1, 2)), c(2, 3, 1), true},
		{of(3, c(1, 2)), c(1), false},
		{of(3, c(1, 1)), c(1), true},
		{of(3, c(1, 1)), c(-1), false},
		{of(3, c(1, 1, 2), c(2, -1)), c(2), true},
		{of(3, c(1, -1)), c(1), false},
		{of(3, c(1, -1), c(-1, 2)), c(2), false},
		{of(3, c(3), c(-3, 2)), c(2), true},
		{of(3, c(3), c(-3, 2)), c(-2), false},
		{of(3, c(3), c(-3, 2)), c(1, 3), true},
		{of(3, c(1, 2, 3)), c(1, 2), false},
		{of(3, c(1, 2, 3), c(-3)), c(1, 2), true},
		{of(4, c(-1, 2), c(-2, 3), c(-3, 4)), c(-1, 4), true},
		{of(4, c(-1, 2), c(-2, 3), c(-3, 4)), c(-4, 1), false},
		{of(4, c(-1, 2), c(-1, 3), c(-2, -3)), c(-1), true},
		{of(1<<24, c(1<<24, -1)), c(-1, 1<<24), true},
		{of(1<<24, c(1<<24, -1)), c(-1, 1-1<<24), false},
		{chain(5000), c(-1, 5000), true},
		{chain(5000), c(1, -5000), false},
	} {
		if got := Follows(x.f, x.row); got != x.want {
			t.Errorf("%d: %t", i, got)
		}
	}
	for name, f := range wrongFormulas() {
		if Follows(f, nil) || Follows(f, c(1)) || Follows(f, c(1, -1)) {
			t.Errorf("%s: follows", name)
		}
	}
}

func TestCheck(t *testing.T) { // P8.2, P8.3
	for i, x := range []struct {
		f     clause.Formula
		proof [][]int
		first int
		ok    bool
	}{
		{four(), rows(c(2), c()), 2, true},
		{four(), rows(c(2), nil), 2, true},
		{four(), rows(c()), 0, false},
		{four(), rows(c(2)), 1, false},
		{four(), rows(c(2), c(), c(1)), 3, false},
		{four(), rows(c(2), c(), c(1), c()), 4, true},
		{four(), rows(c(2), c(), c(3), c()), 2, false},
		{four(), rows(c(2), c(), c(3, -3), c()), 2, false},
		{four(), rows(c(2), c(0), c()), 1, false},
		{four(), rows(c(math.MinInt), c(2), c()), 0, false},
		{four(), rows(c(1, -1), c()), 1, false},
		{four(), rows(c(1, -1), c(-2, -2), c()), 3, true},
		{four(), nil, 0, false},
		{four(), rows(), 0, false},
		{of(2, c(1), c(-1)), rows(c()), 1, true},
		{of(2, c(1), c(-1)), nil, 0, false},
		{of(0, c()), rows(c()), 1, true},
		{clause.Formula{}, rows(c()), 0, false},
		{clause.Formula{}, nil, 0, false},
		{of(3, c(1, 2, 3), c(1, 2, -3), c(1, -2, 3), c(1, -2, -3)), rows(c(1, 2), c(1)), 2, false},
		{of(3, c(1, 2, 3), c(1, 2, -3), c(1, -2, 3), c(1, -2, -3)), rows(c(1), c(1, 2)), 0, false},
		{of(3, c(1, 2, 3), c(1, 2, -3), c(1, -2, 3), c(1, -2, -3)), rows(c(2, 1), c(1), c(-2)), 2, false},
	} {
		if first, ok := First(x.f, x.proof), Check(x.f, x.proof); first != x.first || ok != x.ok {
			t.Errorf("%d: %d, %t", i, first, ok)
		}
	}
	for name, f := range wrongFormulas() {
		for _, proof := range [][][]int{nil, {{}}, {{1, -1}, {}}, {{1}, {}}} {
			if First(f, proof) != 0 || Check(f, proof) {
				t.Errorf("%s: %v", name, proof)
			}
		}
	}
}

func TestShort(t *testing.T) { // P8.4
	f := of(3, c(1, 2), c(-1, 2), c(1, -2), c(-1, -2, 3), c(-3))
	for i, x := range []struct {
		f           clause.Formula
		proof, want [][]int
	}{
		{four(), rows(c(1, 2, -2), c(2), c(2), c()), rows(c(2), c())},
		{four(), rows(c(2), c()), rows(c(2), c())},
		{four(), rows(c(2), c(), c()), rows(c(2), c())},
		{four(), rows(c(2), c(1), c()), rows(c(2), c())},
		{four(), rows(c(1), c(2), c()), rows(c(1), c())},
		{four(), rows(c(2, 2, 1), c(2, 2), c()), rows(c(2, 2), c())},
		{four(), rows(c(-2), c(), c(1), c(2), c()), rows(c(-2), c())},
		{f, rows(c(1, -1), c(2, 3), c(2), c(1), c()), rows(c(2, 3), c())},
		{f, rows(c(3, 2, 3), c(2), c(1), c()), rows(c(3, 2, 3), c())},
		{of(2, c(1), c(-1)), rows(c(2), c(), c(1), c()), rows(c())},
		{of(2, c(1), c(-1)), rows(c()), rows(c())},
		{of(0, c()), rows(c(), c(), c()), rows(c())},
		{of(3, c(1, 2, 3), c(1, 2, -3), c(1, -2, 3), c(1, -2, -3), c(-1, 2), c(-1, -2)), rows(c(1, 2), c(1, 3), c(1), c(2), c()), rows(c(1, 2), c(1), c())},
		{of(3, c(1, 2, 3), c(1, 2, -3), c(1, -2, 3), c(1, -2, -3), c(-1, 2, 3), c(-1, -2, 3), c(-1, 2, -3), c(-1, -2, -3)), rows(c(1, 2), c(1), c(2, 3), c(2), c()), rows(c(1, 2), c(1), c(2), c())},
	} {
		if got, ok := Short(x.f, x.proof); !ok || !same(got, x.want) {
			t.Errorf("%d: %v, %t", i, got, ok)
		}
	}
	for i, proof := range [][][]int{nil, {}, {{}}, {{2}}, {{1, -1}, {}}, {{2}, {3}, {}}, {{2}, {}, {1}}, {{0}, {2}, {}}} {
		if got, ok := Short(four(), proof); ok || got != nil {
			t.Errorf("%d: %v, %t", i, got, ok)
		}
	}
	for name, f := range wrongFormulas() {
		if got, ok := Short(f, rows(c(1), c())); ok || got != nil {
			t.Errorf("%s: %v, %t", name, got, ok)
		}
	}
}

func TestByChance(t *testing.T) { // P8.1, P8.2, P8.3, P8.4
	r := rand.New(rand.NewSource(8))
	proofs, shorter := 0, 0
	for n := range 6000 {
		f := anyFormula(r)
		if n%3 == 0 {
			f = hard(r, 4+r.Intn(16))
		}
		row := anyClause(r, f.Vars+r.Intn(2), r.Intn(5))
		if got := Follows(f, row); got != slowFollows(f, row) {
			t.Fatalf("%v, %v: %t", f, row, got)
		}
		proof := anyProof(r, f)
		first, ok := First(f, proof), Check(f, proof)
		if first != slowFirst(f, proof) || ok != slowCheck(f, proof) {
			t.Fatalf("%v, %v: %d, %t", f, proof, first, ok)
		}
		got, short := Short(f, proof)
		if want, _ := slowShort(f, proof); short != ok || !same(got, want) {
			t.Fatalf("%v, %v: %v, %t, not %v", f, proof, got, short, want)
		}
		if short {
			proofs++
		}
		if short && len(got) > 3 && len(got) < len(proof) {
			shorter++
		}
	}
	if proofs < 500 || shorter < 100 {
		t.Errorf("%d proofs, %d of them made shorter", proofs, shorter)
	}
}

// sum is the formula that (x + y) + z and x + (y + z) are unlike.
func sum() clause.Formula {
	g := term.New()
	add := func(x, y term.ID) term.ID { return g.Add(term.Node{Kind: term.Bin, Op: api.Add, X: x, Y: y}) }
	var s []term.ID
	for n := range int64(3) {
		s = append(s, g.Add(term.Node{Kind: term.Sym, N: n}))
	}
	b := blast.New(g)
	unlike, _ := b.Differ(add(add(s[0], s[1]), s[2]), add(s[0], add(s[1], s[2])))
	b.Require(unlike)
	return b.Formula()
}

func TestOfTerms(t *testing.T) { // P8.2, P8.4, P8.6
	f := sum()
	a, _ := sat.Solve(f, 1<<24)
	if a.Kind != sat.Unsat || len(a.Proof) < 1000 {
		t.Fatalf("%d, %d rows", a.Kind, len(a.Proof))
	}
	short, ok := Short(f, a.Proof)
	if !Check(f, a.Proof) || !ok || len(short) >= len(a.Proof) || !Check(f, short) {
		t.Fatalf("of %d rows %d, %t", len(a.Proof), len(short), ok)
	}
	for i := 0; i < len(short)-1; i += len(short) / 40 {
		if Check(f, slices.Concat(short[:i], short[i+1:])) {
			t.Errorf("row %d can be left out", i)
		}
	}
	again, _ := Short(f, short)
	if !same(short, again) {
		t.Errorf("made shorter once more: %d", len(again))
	}
}

func TestWhatFollows(t *testing.T) { // P8.6
	r := rand.New(rand.NewSource(10))
	for range 4000 {
		f := anyFormula(r)
		row := anyClause(r, f.Vars, r.Intn(4))
		follows := Follows(f, row)
		proof := anyProof(r, f)
		proved := Check(f, proof)
		for n := range 1 << f.Vars {
			m := truths(n, f.Vars)
			holds := clause.Holds(f, m)
			if holds && (proved || follows && !clause.Holds(of(f.Vars, row), m)) {
				t.Fatalf("%v, %v, %v: %v", f, row, proof, m)
			}
		}
		more := of(f.Vars, slices.Concat(f.Clauses, rows(anyClause(r, f.Vars, r.Intn(4))))...)
		if follows && !Follows(more, row) {
			t.Fatalf("%v follows from %v, not from %v", row, f, more)
		}
		if short, ok := Short(f, proof); ok && !Check(f, short) {
			t.Fatalf("%v is no proof of %v", short, f)
		}
	}
}

// A formula may have so many clauses that there is no room for the denied literals, or the rows, beside them.
func TestFullFormula(t *testing.T) { // P8.1, P8.6
	f := of(4, slices.Repeat(rows(c(1, 2)), api.MaxClauses)...)
	copy(f.Clauses, four().Clauses)
	for i, x := range []struct {
		row  []int
		want bool
	}{{c(2), true}, {c(3), false}, {nil, false}, {c(4, -4), true}, {c(1, 2, 3, 4), true}} {
		if got := Follows(f, x.row); got != x.want {
			t.Errorf("%d: %t", i, got)
		}
	}
	if !Check(f, rows(c(2), c(1), c())) || Check(f, rows(c(2), c(3))) || First(f, rows(c(1, 2), c(3), c())) != 1 {
		t.Error("rows of a proof")
	}
	if short, ok := Short(f, rows(c(2), c(1), c())); !ok || !same(short, rows(c(2), c())) {
		t.Errorf("%v, %t", short, ok)
	}
}

// Long clauses whose literals fail one by one must not be gone through from the start each time.
func TestLong(t *testing.T) { // P8.1, P8.2
	const vars = 200000
	f := chain(vars)
	all := make([]int, vars)
	for i := range all {
		all[i] = -i - 1
	}
	f.Clauses = append(f.Clauses, all)
	if !Follows(f, c(-1)) || Follows(f, c(-1000)) || !Follows(f, all) || Follows(chain(vars), all) {
		t.Error("a long clause")
	}
	proof := rows(all, c(-1), c(1, -2), c(vars), c())
	if First(f, proof) != 2 {
		t.Error("a long proof")
	}
}

func TestBack(t *testing.T) { // P8.4
	for n, want := range map[int][]int{-1: nil, 0: nil, 1: c(0), 4: c(3, 2, 1, 0)} {
		if got := slices.Collect(back(n)); !slices.Equal(got, want) {
			t.Errorf("%d: %v", n, got)
		}
	}
	for i := range back(3) {
		if i == 1 {
			break
		}
	}
}

// beyond is a clause in memory in which more stands behind its length.
func beyond(lits ...int) []int { return append(slices.Clone(lits), 77, 78)[:len(lits)] }

func TestOnlyRead(t *testing.T) { // P8.5
	make2 := func() (clause.Formula, [][]int) {
		f := of(3, beyond(2, 1, 2), beyond(2, -1), beyond(-2, 1), beyond(3, -2, -1), beyond(-3), beyond())
		f.Clauses = f.Clauses[:5]
		proof := rows(beyond(1, 1, -1), beyond(3, 2, 2), beyond(2, 3), beyond(2), beyond(), beyond(3))
		return f, proof[:5]
	}
	whole := func(f clause.Formula, proof [][]int) (all [][]int) {
		for _, row := range slices.Concat(f.Clauses[:6], proof[:6]) {
			all = append(all, row[:len(row)+2])
		}
		return all
	}
	f, proof := make2()
	Follows(f, proof[1])
	First(f, proof)
	Check(f, proof)
	short, ok := Short(f, proof)
	g, other := make2()
	if !reflect.DeepEqual(whole(f, proof), whole(g, other)) {
		t.Error("what was handed in has changed")
	}
	if want := rows(c(3, 2, 2), c()); !ok || !same(short, want) {
		t.Fatalf("%v, %t", short, ok)
	}
	for i := range short {
		short[i] = append(short[i], 99)
		clear(short[i])
	}
	if !reflect.DeepEqual(whole(f, proof), whole(g, other)) {
		t.Error("what was answered is not new")
	}
	if again, _ := Short(f, proof); !same(again, rows(c(3, 2, 2), c())) {
		t.Errorf("asked once more: %v", again)
	}
}

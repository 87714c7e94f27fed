package sat

import (
	"fmt"
	"math"
	"math/rand"
	"reflect"
	"slices"
	"testing"

	"proofmark/api"
	"proofmark/clause"
)

// plenty is more fuel than any formula here needs.
const plenty = 1 << 30

// of is a formula over so many variables.
func of(vars int, clauses ...[]int) clause.Formula {
	return clause.Formula{Vars: vars, Clauses: clauses}
}

// c is a clause.
func c(lits ...int) []int { return lits }

// square has all clauses of both of two variables.
func square() clause.Formula { return of(2, c(1, 2), c(-1, 2), c(1, -2), c(-1, -2)) }

// holes asks for more pigeons than there are holes, one in each.
func holes(pigeons, holes int) clause.Formula {
	f := of(pigeons * holes)
	in := func(p, h int) int { return p*holes + h + 1 }
	for p := range pigeons {
		var some []int
		for h := range holes {
			some = append(some, in(p, h))
			for q := range p {
				f.Clauses = append(f.Clauses, c(-in(p, h), -in(q, h)))
			}
		}
		f.Clauses = append(f.Clauses, some)
	}
	return f
}

// chance has so many clauses of so many literals each.
func chance(r *rand.Rand, vars, clauses, long int) clause.Formula {
	f := of(vars)
	for range clauses {
		var row []int
		for range long {
			row = append(row, (1+r.Intn(vars))*(1-2*r.Intn(2)))
		}
		f.Clauses = append(f.Clauses, row)
	}
	return f
}

// mixed has clauses of any length up to 4, the same literals twice among them, both of a variable, and seldom none.
func mixed(r *rand.Rand, vars int) clause.Formula {
	f := of(vars)
	for range r.Intn(5 * vars) {
		long := 1 + r.Intn(4)
		if r.Intn(100) == 0 {
			long = 0
		}
		f.Clauses = append(f.Clauses, chance(r, vars, 1, long).Clauses...)
	}
	return f
}

// cube has all clauses that have each of so many variables, but the first ones of them.
func cube(vars, without int) clause.Formula {
	f := of(vars)
	for k := without; k < 1<<vars; k++ {
		var row []int
		for v := range vars {
			row = append(row, (v+1)*(1-2*(k>>v&1)))
		}
		f.Clauses = append(f.Clauses, row)
	}
	return f
}

// odd asks of each of some rows of variables that an odd number of them is true.
func odd(vars int, rows ...[]int) clause.Formula {
	f := of(vars)
	for _, row := range rows {
		for k := range 1 << len(row) {
			var no []int
			ones := 0
			for i, v := range row {
				no = append(no, v*(1-2*(k>>i&1)))
				ones += k >> i & 1
			}
			if ones%2 == 0 {
				f.Clauses = append(f.Clauses, no)
			}
		}
	}
	return f
}

// hasModel goes through all rows of truths.
func hasModel(f clause.Formula) bool {
	for k := range 1 << f.Vars {
		holds := func(l int) bool { return (k>>(max(l, -l)-1)&1 == 1) == (l > 0) }
		if !slices.ContainsFunc(f.Clauses, func(row []int) bool { return !slices.ContainsFunc(row, holds) }) {
			return true
		}
	}
	return false
}

// follows does as the chapter's words say, of a row whose literals are the formula's; none of a formula that is not right.
func follows(f clause.Formula, ahead [][]int, row []int) bool {
	if _, ok := clause.Clean(row); !ok {
		return true
	}
	g := of(f.Vars, slices.Concat(f.Clauses, ahead)...)
	for _, l := range row {
		g.Clauses = append(g.Clauses, c(-l))
	}
	_, ok := clause.Units(g)
	return !ok && clause.Right(g)
}

// brief is a formula's text, if it is not a long one.
func brief(f clause.Formula) string {
	if len(f.Clauses) > 500 {
		return fmt.Sprintf("%d variables, %d clauses", f.Vars, len(f.Clauses))
	}
	return fmt.Sprint(f)
}

// checkProof looks at each row whose number is a multiple of every, and at the last one.
func checkProof(t *testing.T, f clause.Formula, proof [][]int, every int) {
	t.Helper()
	if len(proof) == 0 || len(proof[len(proof)-1]) != 0 {
		t.Fatalf("%s: a proof of %d rows", brief(f), len(proof))
	}
	if !clause.Right(of(f.Vars, proof...)) {
		t.Fatalf("%s: a proof with literals of others", brief(f))
	}
	if slices.ContainsFunc(proof[:len(proof)-1], func(row []int) bool { return len(row) == 0 }) {
		t.Fatalf("%s: a proof that goes on behind its end", brief(f))
	}
	for i, row := range proof {
		if (i%every == 0 || i == len(proof)-1) && !follows(f, proof[:i], row) {
			t.Fatalf("%s: the row %d of the proof: %v", brief(f), i, row)
		}
	}
}

// solve asks, and looks whether the answer is one at all.
func solve(t *testing.T, f clause.Formula, fuel int) Answer {
	t.Helper()
	a, err := Solve(f, fuel)
	if err != api.OK || a.Used < 0 || a.Used > fuel {
		t.Fatalf("error %d; used %d of %d", err, a.Used, fuel)
	}
	if a.Kind != Sat && len(a.Model) != 0 || a.Kind != Unsat && len(a.Proof) != 0 {
		t.Fatalf("kind %d: a model of %d, a proof of %d", a.Kind, len(a.Model), len(a.Proof))
	}
	switch a.Kind {
	case Sat:
		if !clause.Holds(f, a.Model) {
			t.Fatalf("%s: a model of %d in which it does not hold", brief(f), len(a.Model))
		}
	case Unsat:
		if len(a.Proof) == 0 || len(a.Proof[len(a.Proof)-1]) != 0 {
			t.Fatalf("%s: a proof of %d rows, the last of which is not empty", brief(f), len(a.Proof))
		}
	case Unknown:
		if a.Used != fuel {
			t.Fatalf("unknown, used %d of %d", a.Used, fuel)
		}
	default:
		t.Fatalf("kind %d", a.Kind)
	}
	return a
}

// told asks with plenty of fuel; it looks at each row of a proof whose number is a multiple of every.
func told(t *testing.T, f clause.Formula, want uint8, every int) Answer {
	t.Helper()
	a := solve(t, f, plenty)
	if a.Kind != want {
		t.Fatalf("%s: kind %d, not %d", brief(f), a.Kind, want)
	}
	if want == Unsat {
		checkProof(t, f, a.Proof, every)
	}
	return a
}

func same(a, b Answer) bool {
	return a.Kind == b.Kind && a.Used == b.Used && slices.Equal(a.Model, b.Model) && slices.EqualFunc(a.Proof, b.Proof, slices.Equal[[]int])
}

func TestSolve(t *testing.T) { // P7.1
	for i, x := range []struct {
		f    clause.Formula
		want uint8
	}{
		{clause.Formula{}, Sat},
		{of(3), Sat},
		{of(0, nil), Unsat},
		{of(2, c(1, 2), c()), Unsat},
		{of(1, c(1)), Sat},
		{of(1, c(-1), c(1)), Unsat},
		{of(1, c(1, -1), c(-1, 1)), Sat},
		{of(2, c(2, 2), c(-2, -2, -2)), Unsat},
		{of(2, c(2, 2), c(-1, -1, -2)), Sat},
		{of(2, c(1, 2), c(-1, 2), c(1, -2)), Sat},
		{square(), Unsat},
		{of(3, c(1, 2, 3), c(-1), c(-2, 3), c(2, -3, 1)), Sat},
		{of(4, c(1), c(-1, 2), c(-2, 3), c(-3, 4), c(-4, -1)), Unsat},
		{of(5, c(1, 2), c(1, -2, 3), c(1, -2, -3), c(-1, 4), c(-1, -4, 5), c(-1, -4, -5)), Unsat},
		{odd(4, c(1, 2, 3), c(2, 3, 4), c(1, 4)), Unsat},
		{odd(4, c(1, 2, 3), c(2, 3, 4), c(1, 2)), Sat},
		{holes(3, 3), Sat},
		{holes(4, 3), Unsat},
		{cube(6, 0), Unsat},
		{cube(6, 1), Sat},
	} {
		if (x.want == Sat) != hasModel(x.f) {
			t.Fatalf("%d: %v", i, x.f)
		}
		told(t, x.f, x.want, 1)
	}
}

func TestSolveWrong(t *testing.T) { // P7.1
	wrong := map[string]clause.Formula{
		"below 0":             of(-1),
		"the least":           of(math.MinInt),
		"too many variables":  of(1<<24 + 1),
		"far too many":        of(math.MaxInt),
		"a 0":                 of(2, c(1, 2), c(1, 0)),
		"one too far":         of(2, c(1), c(3)),
		"one too far, not":    of(2, c(-1), c(-3)),
		"the least literal":   of(2, c(math.MinInt)),
		"none to be of":       of(0, c(1)),
		"behind an empty one": of(1, c(), c(2)),
		"too many clauses":    of(1, make([][]int, api.MaxClauses+1)...),
	}
	for name, f := range wrong {
		for _, fuel := range []int{0, 100, math.MaxInt, -1} {
			if a, err := Solve(f, fuel); err != api.ErrArg || !reflect.DeepEqual(a, Answer{}) {
				t.Errorf("%s, fuel %d: %v, %d", name, fuel, a, err)
			}
		}
	}
	for _, f := range []clause.Formula{{}, of(0, nil), of(1, c(1)), square()} {
		for _, fuel := range []int{-1, -2, math.MinInt} {
			if a, err := Solve(f, fuel); err != api.ErrArg || !reflect.DeepEqual(a, Answer{}) {
				t.Errorf("%v, fuel %d: %v, %d", f, fuel, a, err)
			}
		}
	}
}

func TestSolveByChance(t *testing.T) { // P7.1, P7.5
	r := rand.New(rand.NewSource(1))
	var kinds [3]int
	for range 6000 {
		f := mixed(r, 1+r.Intn(9))
		want := Unsat
		if hasModel(f) {
			want = Sat
		}
		told(t, f, want, 1)
		kinds[want]++
	}
	if kinds[Sat] < 1000 || kinds[Unsat] < 1000 {
		t.Errorf("%v", kinds)
	}
}

// TestFuel asks with each fuel up to what is needed, and beyond.
func TestFuel(t *testing.T) { // P7.2, P7.3
	r := rand.New(rand.NewSource(2))
	formulas := []clause.Formula{{}, of(0, nil), of(7), square(), holes(4, 3), cube(4, 0), of(3, c(1), c(-1, 2), c(-2, 3), c(-3, -1)), of(2, c(1), c(2), c())}
	for range 300 {
		formulas = append(formulas, mixed(r, 1+r.Intn(8)), chance(r, 10, 43, 3))
	}
	for _, f := range formulas {
		whole := solve(t, f, plenty)
		for fuel := range whole.Used {
			if a := solve(t, f, fuel); a.Kind != Unknown {
				t.Fatalf("%s: fuel %d, kind %d, though it needs %d", brief(f), fuel, a.Kind, whole.Used)
			}
		}
		for _, fuel := range []int{whole.Used, whole.Used + 1, whole.Used + 50, math.MaxInt} {
			if a := solve(t, f, fuel); !same(a, whole) {
				t.Fatalf("%s: fuel %d: %v, not %v", brief(f), fuel, a, whole)
			}
		}
	}
}

// TestFuelLong asks a longer one, which begins anew and drops clauses, with some fuels.
func TestFuelLong(t *testing.T) { // P7.2, P7.3
	f := holes(8, 7)
	whole := told(t, f, Unsat, 37)
	if len(whole.Proof) < room {
		t.Errorf("a proof of %d rows", len(whole.Proof))
	}
	for _, fuel := range []int{0, 1, 1000, whole.Used / 2, whole.Used - 1} {
		if a := solve(t, f, fuel); a.Kind != Unknown {
			t.Errorf("fuel %d: kind %d", fuel, a.Kind)
		}
	}
	for _, fuel := range []int{whole.Used, 2 * whole.Used} {
		if a := solve(t, f, fuel); !same(a, whole) {
			t.Errorf("fuel %d: unlike", fuel)
		}
	}
}

// TestFuelUses has formulas of which the words tell what is used, whichever variable is decided.
func TestFuelUses(t *testing.T) { // P7.2
	for i, x := range []struct {
		f    clause.Formula
		want []int
	}{
		{clause.Formula{}, c(0)},
		{of(0, nil), c(0)},
		{of(3, c(1), c(2), c(3), c()), c(0)},
		{of(3, c(1, 2), c(), c(1, 3)), c(0)},
		{of(1, c(1), c(-1)), c(1)},
		{of(1, c(1), c(1), c(1, 1)), c(1)},
		{of(3, c(1), c(-2), c(3)), c(3)},
		{of(4, c(1), c(-1, 2), c(-2, 3), c(-3, 4)), c(4)},
		{of(4, c(-3, 4), c(-2, 3), c(-1, 2), c(1)), c(4)},
		{of(3, c(1), c(-1, 2), c(-2, 3), c(-1, -2, -3)), c(2, 3)},
		{of(2, c(1), c(1, 2)), c(1, 2)},
		{of(2, c(1, -1), c(2)), c(1, 2)},
		{of(2, c(1, 2)), c(1, 2)},
		{of(2, c(1, 2), c(-1, -2)), c(2)},
		{square(), c(5)}, // a decision, what is told by it, a conflict; its other one, what is told by that
		{of(4, c(1, 2), c(-1, 2), c(1, -2), c(-1, -2), c(4), c(-4, 3)), c(7)},
	} {
		if a := solve(t, x.f, plenty); !slices.Contains(x.want, a.Used) {
			t.Errorf("%d: used %d, not %v", i, a.Used, x.want)
		}
	}
}

// TestTwelve has formulas of at most 12 variables that are as hard as can be.
func TestTwelve(t *testing.T) { // P7.3
	r := rand.New(rand.NewSource(3))
	formulas := []clause.Formula{cube(12, 0), cube(12, 1), cube(12, 4095), cube(11, 0), holes(4, 3), holes(3, 4), holes(6, 2), holes(12, 1)}
	for range 400 {
		formulas = append(formulas, chance(r, 12, 40+r.Intn(30), 3), mixed(r, 12), chance(r, 12, 100+r.Intn(400), 5))
	}
	for range 100 {
		var rows [][]int
		for range 13 {
			row := r.Perm(12)[:2+r.Intn(5)]
			for i := range row {
				row[i]++
			}
			rows = append(rows, row)
		}
		formulas = append(formulas, odd(12, rows...))
	}
	for _, f := range formulas {
		want := Unsat
		if hasModel(f) {
			want = Sat
		}
		if a := solve(t, f, 1<<20); a.Kind != want {
			t.Fatalf("%s: kind %d, not %d", brief(f), a.Kind, want)
		}
	}
}

func TestUnitsAlone(t *testing.T) { // P7.3
	r := rand.New(rand.NewSource(4))
	for range 3000 {
		f := chance(r, 1+r.Intn(20), r.Intn(10), 1)
		for i, row := range f.Clauses {
			f.Clauses[i] = slices.Repeat(row, 1+r.Intn(2))
		}
		want := Sat
		if _, ok := clause.Units(f); !ok {
			want = Unsat
		}
		if a := solve(t, f, f.Vars); a.Kind != want {
			t.Fatalf("%v: kind %d", f, a.Kind)
		}
	}
	all := of(1 << 16)
	for v := 1; v <= all.Vars; v++ {
		all.Clauses = append(all.Clauses, c(v*(1-v%2*2)))
	}
	if a := solve(t, all, all.Vars-1); a.Kind != Unknown {
		t.Errorf("all: kind %d", a.Kind)
	}
	if a := solve(t, all, all.Vars); a.Kind != Sat {
		t.Errorf("all: kind %d", a.Kind)
	}
}

// TestHard has longer runs, which begin anew, drop clauses and lower scores.
func TestHard(t *testing.T) { // P7.1, P7.5
	told(t, holes(7, 6), Unsat, 10)
	told(t, holes(12, 12), Sat, 1)
	r := rand.New(rand.NewSource(5))
	var kinds [3]int
	for range 20 {
		f := chance(r, 120, 511, 3)
		a := solve(t, f, plenty)
		kinds[a.Kind]++
		if a.Kind == Unsat {
			checkProof(t, f, a.Proof, 50)
		}
	}
	if kinds[Sat] == 0 || kinds[Unsat] == 0 || kinds[Unknown] > 0 {
		t.Errorf("%v", kinds)
	}
}

// TestPlanted has formulas with a model that is known; each one that is found is ruled out, till there is none.
func TestPlanted(t *testing.T) { // P7.5
	r := rand.New(rand.NewSource(6))
	for range 8 {
		f := of(200)
		hidden := make([]bool, f.Vars)
		for v := range hidden {
			hidden[v] = r.Intn(2) == 0
		}
		for len(f.Clauses) < 1200 {
			one := chance(r, f.Vars, 1, 3)
			if clause.Holds(of(f.Vars, one.Clauses...), hidden) {
				f.Clauses = append(f.Clauses, one.Clauses...)
			}
		}
		for range 20 {
			a := solve(t, f, plenty)
			if a.Kind == Unsat {
				if clause.Holds(f, hidden) {
					t.Fatal("it has a model")
				}
				checkProof(t, f, a.Proof, 20)
				break
			}
			var other []int
			for v, truth := range a.Model {
				l := v + 1
				if truth {
					l = -l
				}
				other = append(other, l)
			}
			f.Clauses = append(f.Clauses, other)
		}
	}
}

// chain is variables each of which tells the next one.
func chain(vars int) clause.Formula {
	f := of(vars)
	for v := 1; v < vars; v++ {
		f.Clauses = append(f.Clauses, c(-v, v+1))
	}
	return f
}

// TestLong has as many variables, clauses and literals as there may be, or many.
func TestLong(t *testing.T) { // P7.1
	solve(t, of(1<<24), 0)
	told(t, of(1<<24, c(1<<24), c(-1<<24, 1)), Sat, 1)
	told(t, of(1<<24, c(1<<24), c(-1<<24, 1), c(-1, -1<<24)), Unsat, 1)
	told(t, of(2, slices.Repeat([][]int{c(1, 2)}, api.MaxClauses)...), Sat, 1)
	a := solve(t, of(2, append(slices.Repeat([][]int{c(1, 2)}, api.MaxClauses-3), square().Clauses[1:]...)...), plenty)
	if a.Kind != Unsat {
		t.Errorf("of as many clauses as there may be: kind %d", a.Kind)
	}
	checkProof(t, square(), a.Proof, 1)
	f := chain(1 << 19)
	told(t, f, Sat, 1)
	told(t, of(f.Vars, append(f.Clauses, c(1))...), Sat, 1)
	a = solve(t, of(f.Vars, append(f.Clauses, c(1), c(-f.Vars))...), plenty)
	if a.Kind != Unsat || len(a.Proof) != 1 || a.Used != f.Vars {
		t.Errorf("kind %d, %d rows, used %d", a.Kind, len(a.Proof), a.Used)
	}
}

// TestLongClause has clauses of many literals, which fail one by one.
func TestLongClause(t *testing.T) { // P7.1
	var all, none []int
	for v := 1; v <= 1<<18; v++ {
		all = append(all, v)
		none = append(none, -v)
	}
	told(t, of(len(all), all, none), Sat, 1)
	f := of(len(all), all)
	for _, l := range none {
		f.Clauses = append(f.Clauses, c(l))
	}
	a := solve(t, f, plenty)
	if a.Kind != Unsat || len(a.Proof) != 1 {
		t.Errorf("kind %d, %d rows", a.Kind, len(a.Proof))
	}
	f.Clauses = f.Clauses[:len(f.Clauses)-1]
	if a := told(t, f, Sat, 1); !a.Model[f.Vars-1] {
		t.Error("the last one")
	}
}

// TestDeep has a conflict that is led to by many clauses, one behind the other, but by one decision.
func TestDeep(t *testing.T) { // P7.1
	f := chain(100000)
	n := f.Vars
	// Above the last one there are two variables more, that are at odds with it, in whichever way: 1 must be false.
	f.Vars += 2
	f.Clauses = append(f.Clauses, c(-n, n+1, n+2), c(-n, n+1, -n-2), c(-n, -n-1, n+2), c(-n, -n-1, -n-2))
	if a := told(t, f, Sat, 1); a.Model[0] {
		t.Error("the first one is true")
	}
	f.Clauses = append(f.Clauses, c(1))
	told(t, f, Unsat, 1)
}

// TestFarTold has what is told by the first decision stand in a clause that is learnt of the second one: it is far from that
// decision, which does not stand there, so that it may not be left out.
func TestFarTold(t *testing.T) { // P7.5
	for _, far := range []int{2, 99, 100, 101, 300} {
		f := of(far + 20)
		for i := range far {
			f.Clauses = append(f.Clauses, c(9+i, -10-i))
		}
		f.Clauses[0] = c(1, -10)
		f.Clauses = append(f.Clauses, c(2, 9+far, 3), c(2, 9+far, -3)) // without 1 and 2 there is none
		f.Clauses = append(f.Clauses, c(-2, 4, 5), c(-2, 4, -5), c(-2, -4, 5), c(-2, -4, -5))
		if a := told(t, f, Sat, 1); a.Model[1] || !a.Model[8+far] {
			t.Errorf("%d: %v", far, a.Model)
		}
		f.Clauses = append(f.Clauses, c(-9-far, 6), c(-9-far, -6))
		told(t, f, Unsat, 1)
	}
}

// withBehind is the clause with other numbers behind it in its memory.
func withBehind(row []int) []int { return append(slices.Clone(row), 77, -78, 79)[:len(row)] }

// scribble writes over rows, and over what lies behind them.
func scribble(rows ...[]int) {
	for _, row := range rows {
		for i := range row[:cap(row)] {
			row[:cap(row)][i] = 1000 + i
		}
	}
}

func TestOnlyRead(t *testing.T) { // P7.4
	for _, f := range []clause.Formula{holes(5, 4), holes(4, 4), of(3, c(3, 2, 1, 3), c(-3, 2, -2), c(-1)), of(2, c(2), c())} {
		for i, row := range f.Clauses {
			f.Clauses[i] = withBehind(row)
		}
		f.Clauses = append(f.Clauses, c(9), c(8))[:len(f.Clauses)]
		whole := func() string {
			text := fmt.Sprint(f.Vars, f.Clauses[:len(f.Clauses)+2])
			for _, row := range f.Clauses {
				text += fmt.Sprint(row[:cap(row)])
			}
			return text
		}
		before := whole()
		for _, fuel := range []int{0, 5, plenty} {
			a := solve(t, f, fuel)
			scribble(a.Proof...)
			clear(a.Model)
		}
		if after := whole(); after != before {
			t.Errorf("%s\nbefore: %s", after, before)
		}
	}
}

func TestNewMemory(t *testing.T) { // P7.4
	f := holes(5, 4)
	first, second := solve(t, f, plenty), solve(t, f, plenty)
	if !reflect.DeepEqual(first, second) || len(first.Proof) < 3 {
		t.Fatalf("%v, and %v", first, second)
	}
	for i, row := range first.Proof {
		scribble(row)
		if !slices.EqualFunc(first.Proof[i+1:], second.Proof[i+1:], slices.Equal[[]int]) {
			t.Fatalf("the row %d shares its memory", i)
		}
	}
	f = holes(4, 4)
	first = solve(t, f, plenty)
	second = solve(t, f, plenty)
	for v := range first.Model {
		first.Model[v] = !first.Model[v]
	}
	if !clause.Holds(f, second.Model) || !same(solve(t, f, plenty), second) {
		t.Error("models share their memory")
	}
}

// TestAsHandedIn keeps what was solved ahead, and asks once more.
func TestAsHandedIn(t *testing.T) { // P7.4
	f := of(4, c(1, 2), c(-1, 3), c(-3, 4), c(-2, 4), c(-4, 1))
	a := solve(t, f, plenty)
	for i, row := range f.Clauses {
		f.Clauses[i] = slices.Clone(row)
		scribble(row)
	}
	if !clause.Holds(f, a.Model) || !same(a, solve(t, f, plenty)) {
		t.Error("what was answered hangs on what was handed in")
	}
}

func TestLuby(t *testing.T) { // P7.3
	want := c(1, 1, 2, 1, 1, 2, 4, 1, 1, 2, 1, 1, 2, 4, 8, 1)
	for i, n := range want {
		if luby(i+1) != n {
			t.Errorf("luby(%d) = %d", i+1, luby(i+1))
		}
	}
}

// TestOrder looks whether what is taken comes ahead of all else, also once scores were lowered.
func TestOrder(t *testing.T) { // P7.3
	r := rand.New(rand.NewSource(7))
	o := newOrder(51)
	for range 3000 {
		v := 1 + r.Intn(50)
		o.enter(v)
		o.raise(1 + r.Intn(50))
		o.fade()
		if r.Intn(3) == 0 {
			best := slices.MaxFunc(o.heap, func(a, b int32) int {
				if o.ahead(a, b) {
					return 1
				}
				return -1
			})
			if got, ok := o.take(); !ok || got != int(best) {
				t.Fatalf("%d, not %d", got, best)
			}
		}
	}
	for range len(o.heap) {
		o.take()
	}
	if v, ok := o.take(); ok || v != 0 {
		t.Error("none is left")
	}
	o = newOrder(9)
	for v := 1; v < 9; v++ {
		o.enter(v)
		for range v {
			o.raise(v)
		}
	}
	o.lower() // all are the same
	for want := 1; want < 9; want++ {
		if v, _ := o.take(); v != want {
			t.Errorf("%d, not %d", v, want)
		}
	}
}

func TestExamples(t *testing.T) { // the chapter's
	a := solve(t, of(2, c(1, 2), c(-1, 2), c(1, -2)), plenty)
	if a.Kind != Sat || !slices.Equal(a.Model, []bool{true, true}) {
		t.Errorf("%v", a)
	}
	told(t, square(), Unsat, 1)
	a = solve(t, of(0, c()), 0)
	if a.Kind != Unsat || len(a.Proof) != 1 || len(a.Proof[0]) != 0 {
		t.Errorf("%v", a)
	}
	if a := solve(t, of(2, c(1, 2)), 0); a.Kind != Unknown {
		t.Errorf("%v", a)
	}
}

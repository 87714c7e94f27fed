package clause

import (
	"fmt"
	"math"
	"math/rand"
	"reflect"
	"slices"
	"strings"
	"testing"

	"proofmark/api"
)

// of is a formula over so many variables.
func of(vars int, clauses ...[]int) Formula { return Formula{Vars: vars, Clauses: clauses} }

// c is a clause.
func c(lits ...int) []int { return lits }

// same tells whether formulas are the same; nil and empty lists are.
func same(a, b Formula) bool {
	return a.Vars == b.Vars && slices.EqualFunc(a.Clauses, b.Clauses, slices.Equal[[]int])
}

// wrongFormulas are not right.
func wrongFormulas() map[string]Formula {
	return map[string]Formula{
		"below 0":            of(-1),
		"far below 0":        of(math.MinInt),
		"too many variables": of(1<<24 + 1),
		"far too many":       of(math.MaxInt),
		"a 0":                of(2, c(1, 2), c(1, 0)),
		"one too far":        of(2, c(1), c(3)),
		"one too far, not":   of(2, c(-1), c(-3)),
		"the least":          of(2, c(math.MinInt)),
		"the least but one":  of(1<<24, c(math.MinInt+1)),
		"the greatest":       of(1<<24, c(math.MaxInt)),
		"none to be of":      of(0, c(1)),
		"too many clauses":   of(1<<24, make([][]int, api.MaxClauses+1)...),
	}
}

// anyFormula has few variables and short clauses, so that things meet.
func anyFormula(r *rand.Rand) Formula {
	f := of(r.Intn(7))
	for range r.Intn(10) {
		f.Clauses = append(f.Clauses, anyClause(r, f.Vars, r.Intn(5)))
	}
	return f
}

func anyClause(r *rand.Rand, vars, long int) []int {
	var lits []int
	for range long {
		if vars > 0 {
			lits = append(lits, anyLiteral(r, vars))
		}
	}
	return lits
}

func anyLiteral(r *rand.Rand, vars int) int {
	return (1 + r.Intn(vars)) * (1 - 2*r.Intn(2))
}

// models are all rows of so many truths.
func models(vars int) [][]bool {
	all := [][]bool{{}}
	for range vars {
		var more [][]bool
		for _, m := range all {
			more = append(more, append(slices.Clone(m), false), append(slices.Clone(m), true))
		}
		all = more
	}
	return all
}

func holds(model []bool, l int) bool { return model[max(l, -l)-1] == (l > 0) }

func TestRight(t *testing.T) { // P5.1
	for i, f := range []Formula{{}, of(0, nil), of(0, c(), c()), of(1<<24, c(1<<24), c(-1<<24, 1)), of(3), of(3, c(1, 1, -1), c(-3)), of(1, make([][]int, api.MaxClauses)...)} {
		if !Right(f) {
			t.Errorf("%d is right", i)
		}
	}
	for name, f := range wrongFormulas() {
		if Right(f) {
			t.Errorf("%s: right", name)
		}
	}
}

func TestHolds(t *testing.T) { // P5.2
	f := of(4, c(1), c(-1, 2), c(-2, 3, 4))
	for _, m := range models(4) {
		want := m[0] && m[1] && (m[2] || m[3])
		if Holds(f, m) != want {
			t.Errorf("%v: %t", m, !want)
		}
	}
	if !Holds(Formula{}, nil) || !Holds(of(1), []bool{false}) || !Holds(of(1, c(1, -1)), []bool{false}) {
		t.Error("nothing is asked for")
	}
	if Holds(of(0, nil), nil) || Holds(of(1, c(1), c()), []bool{true}) {
		t.Error("an empty clause never holds")
	}
	for _, m := range [][]bool{nil, {}, {true, true, true}, {true, true, true, true, true}} {
		if Holds(f, m) || Holds(of(4), m) {
			t.Errorf("%d truths", len(m))
		}
	}
	for name, f := range wrongFormulas() {
		var m []bool
		if f.Vars > 0 && f.Vars < 1<<25 {
			m = make([]bool, f.Vars)
		}
		if Holds(f, m) {
			t.Errorf("%s: holds", name)
		}
	}
}

func TestClean(t *testing.T) { // P5.3
	for i, x := range []struct {
		c, want []int
		ok      bool
	}{
		{c(3, -1, 3), c(-1, 3), true},
		{c(1, -1), nil, false},
		{c(-1, 1), nil, false},
		{nil, nil, true},
		{c(), nil, true},
		{c(0), nil, false},
		{c(2, 0), nil, false},
		{c(math.MinInt), nil, false},
		{c(1, math.MinInt), nil, false},
		{c(math.MinInt+1, math.MinInt), nil, false},
		{c(math.MinInt + 1), c(math.MinInt + 1), true},
		{c(math.MaxInt, math.MinInt+1), nil, false},
		{c(math.MaxInt, 1, -2, math.MaxInt), c(1, -2, math.MaxInt), true},
		{c(-5, 4, -5, 1), c(1, 4, -5), true},
		{c(2, -7, 2, 7, 2), nil, false},
		{c(-9, -9, -9), c(-9), true},
	} {
		if got, ok := Clean(x.c); !slices.Equal(got, x.want) || ok != x.ok {
			t.Errorf("%d: %v, %t", i, got, ok)
		}
	}
}

func TestCleanByChance(t *testing.T) { // P5.3
	r := rand.New(rand.NewSource(1))
	for range 20000 {
		row := anyClause(r, 1+r.Intn(40), r.Intn(30))
		want, saysSomething := []int{}, true
		for v := 1; v <= 40; v++ {
			if slices.Contains(row, v) {
				want = append(want, v)
			}
			if slices.Contains(row, -v) {
				want = append(want, -v)
			}
			saysSomething = saysSomething && !(slices.Contains(row, v) && slices.Contains(row, -v))
		}
		got, ok := Clean(row)
		if ok != saysSomething || ok && !slices.Equal(got, want) || !ok && got != nil {
			t.Fatalf("%v: %v, %t", row, got, ok)
		}
	}
}

func TestAssign(t *testing.T) { // P5.4
	f := of(4, c(1), c(-1, 2), c(-2, 3, 4), c(4, -3, 4, -3, 1), c(), c(2, -2))
	for i, x := range []struct {
		lits []int
		want Formula
	}{
		{nil, f},
		{c(2), of(4, c(1), c(3, 4), c(4, -3, 4, -3, 1), c())},
		{c(2, -3, 2), of(4, c(1), c(4), c())},
		{c(-1, 3), of(4, c(), c(4, 4), c(), c(2, -2))},
		{c(-2), of(4, c(1), c(-1), c(4, -3, 4, -3, 1), c())},
		{c(-1, -2, -3, -4), of(4, c(), c())},
	} {
		if got, ok := Assign(f, x.lits...); !ok || !same(got, x.want) {
			t.Errorf("%d: %v, %t", i, got, ok)
		}
	}
	if got, ok := Assign(Formula{}); !ok || !same(got, Formula{}) {
		t.Error("of nothing")
	}
	for _, lits := range [][]int{{2, -2}, {-2, 1, 2}, {5}, {-5}, {0}, {1, 0}, {math.MinInt}, {math.MaxInt}, {1, 2, 3, 4, 5}, {1, 1, -1}} {
		if got, ok := Assign(f, lits...); ok || !reflect.DeepEqual(got, Formula{}) {
			t.Errorf("%v: %v, %t", lits, got, ok)
		}
	}
	for name, f := range wrongFormulas() {
		if got, ok := Assign(f); ok || !reflect.DeepEqual(got, Formula{}) {
			t.Errorf("%s: %v, %t", name, got.Vars, ok)
		}
	}
}

func TestAssignByChance(t *testing.T) { // P5.4, P5.9
	r := rand.New(rand.NewSource(2))
	for range 3000 {
		f := anyFormula(r)
		lits := anyClause(r, f.Vars, r.Intn(4))
		g, ok := Assign(f, lits...)
		if says := !hasBoth(lits); ok != says {
			t.Fatalf("%v, %v: %t", f, lits, ok)
		}
		for _, m := range models(f.Vars) {
			if ok && !slices.ContainsFunc(lits, func(l int) bool { return !holds(m, l) }) && Holds(f, m) != Holds(g, m) {
				t.Fatalf("%v, %v: %v, in %v", f, lits, g, m)
			}
		}
		for _, row := range g.Clauses {
			if slices.ContainsFunc(row, func(l int) bool { return slices.Contains(lits, l) || slices.Contains(lits, -l) }) {
				t.Fatalf("%v, %v: %v has some of them", f, lits, g)
			}
		}
	}
}

func hasBoth(lits []int) bool {
	return slices.ContainsFunc(lits, func(l int) bool { return slices.Contains(lits, -l) })
}

func TestUnits(t *testing.T) { // P5.5
	for i, x := range []struct {
		f    Formula
		want []int
		ok   bool
	}{
		{Formula{}, nil, true},
		{of(3), nil, true},
		{of(4, c(1), c(-1, 2), c(-2, 3, 4)), c(1, 2), true},
		{of(4, c(-2, 3, 4), c(-1, 2), c(1)), c(1, 2), true},
		{of(2, c(1, 1)), c(1), true},
		{of(2, c(2, 2), c(-2, -1, -2, -1, -1)), c(-1, 2), true},
		{of(2, c(1), c(-1, 2), c(-2)), nil, false},
		{of(2, c(1), c(-1)), nil, false},
		{of(2, c(1), c(1)), c(1), true},
		{of(2, c(1, 2), c()), nil, false},
		{of(0, nil), nil, false},
		{of(2, c(1, -1)), nil, true},
		{of(2, c(1), c(1, -1), c(2, -2)), c(1), true},
		{of(2, c(1), c(-1, 2, -2)), c(1), true},
		{of(2, c(1, 2), c(-1, 2), c(1, -2), c(-1, -2)), nil, true},
		{of(2, c(1, 2), c(-1, 2), c(1, -2), c(-1, -2), c(2)), nil, false},
		{of(9, c(9), c(-9, -4), c(4, 7), c(-7, 9, 2)), c(-4, 7, 9), true},
		{of(3, c(1), c(2), c(3), c(-1, -2, -3)), nil, false},
		{of(3, c(1), c(2), c(-1, -2, -3)), c(1, 2, -3), true},
		{of(1<<24, c(1<<24), c(-1<<24, -1)), c(-1, 1<<24), true},
	} {
		if got, ok := Units(x.f); !slices.Equal(got, x.want) || ok != x.ok {
			t.Errorf("%d: %v, %t", i, got, ok)
		}
	}
	for name, f := range wrongFormulas() {
		if got, ok := Units(f); got != nil || ok {
			t.Errorf("%s: %v, %t", name, got, ok)
		}
	}
}

// slowUnits does as the promise's words say, clause by clause.
func slowUnits(f Formula) ([]int, bool) {
	var found []int
	for again := true; again; {
		again = false
		for _, row := range f.Clauses {
			left := slices.DeleteFunc(slices.Clone(row), func(l int) bool { return slices.Contains(found, -l) })
			slices.Sort(left)
			left = slices.Compact(left)
			if len(left) == 0 {
				return nil, false
			}
			if len(left) == 1 && !slices.Contains(found, left[0]) {
				found = append(found, left[0])
				again = true
			}
		}
	}
	slices.SortFunc(found, func(a, b int) int { return max(a, -a) - max(b, -b) })
	return found, true
}

func TestUnitsByChance(t *testing.T) { // P5.5, P5.9
	r := rand.New(rand.NewSource(3))
	none, some := 0, 0
	for range 20000 {
		f := anyFormula(r)
		for i, row := range f.Clauses {
			if r.Intn(3) == 0 {
				f.Clauses[i] = row[:min(len(row), 1)]
			}
			if len(f.Clauses[i]) == 0 && r.Intn(10) > 0 && f.Vars > 0 {
				f.Clauses[i] = c(anyLiteral(r, f.Vars))
			}
		}
		got, ok := Units(f)
		want, wantOK := slowUnits(f)
		if !slices.Equal(got, want) || ok != wantOK {
			t.Fatalf("%v: %v, %t, not %v, %t", f, got, ok, want, wantOK)
		}
		if ok {
			some++
		} else {
			none++
		}
		for _, m := range models(f.Vars) {
			if Holds(f, m) && (!ok || slices.ContainsFunc(got, func(l int) bool { return !holds(m, l) })) {
				t.Fatalf("%v: %v, %t, but %v is a model", f, got, ok, m)
			}
		}
	}
	if none < 1000 || some < 1000 {
		t.Errorf("chance is lopsided: %d, %d", none, some)
	}
}

func TestUnitsOfMany(t *testing.T) { // P5.5: a long row of clauses, each of which tells the one ahead of it, and a long clause
	const many = 1 << 17
	f := of(many)
	var long []int
	for v := 1; v < many; v++ {
		f.Clauses = append(f.Clauses, c(-(v+1), v))
		long = append(long, -v)
	}
	f.Clauses = append(f.Clauses, long, c(many))
	if got, ok := Units(f); got != nil || ok {
		t.Errorf("no model: %d, %t", len(got), ok)
	}
	f.Clauses[many-1] = append(long, many)
	if got, ok := Units(f); len(got) != many || !ok || got[many-1] != many || got[0] != 1 {
		t.Errorf("a model: %d, %t", len(got), ok)
	}
}

func TestResolve(t *testing.T) { // P5.6
	for i, x := range []struct {
		a, b []int
		v    int
		want []int
		ok   bool
	}{
		{c(1, 2), c(-1, 3), 1, c(2, 3), true},
		{c(3, 1, 3, 2, 1), c(-1, 2, -5, -1), 1, c(2, 3, -5), true},
		{c(1), c(-1), 1, nil, true},
		{c(1, 2), c(-1, -2), 1, nil, false},
		{c(1, 2, -2), c(-1), 1, nil, false},
		{c(1), c(-1, 2, -2), 1, nil, false},
		{c(1), c(1), 1, nil, false},
		{c(-1), c(-1), 1, nil, false},
		{c(-1), c(1), 1, nil, false},
		{c(-1), c(1), -1, nil, false},
		{c(1), c(-1), -1, nil, false},
		{c(1, -1), c(-1), 1, nil, false},
		{c(1), c(-1, 1), 1, nil, false},
		{c(2), c(-1), 1, nil, false},
		{c(1), c(2), 1, nil, false},
		{nil, c(-1), 1, nil, false},
		{c(1), nil, 1, nil, false},
		{nil, nil, 0, nil, false},
		{c(0), c(0), 0, nil, false},
		{c(1, 0), c(-1), 1, nil, false},
		{c(1), c(-1, 0), 1, nil, false},
		{c(1, math.MinInt), c(-1), 1, nil, false},
		{c(1), c(math.MinInt, -1), 1, nil, false},
		{c(math.MinInt), c(math.MinInt), math.MinInt, nil, false},
		{c(math.MaxInt, 7), c(math.MinInt+1, -8), math.MaxInt, c(7, -8), true},
	} {
		if got, ok := Resolve(x.a, x.b, x.v); !slices.Equal(got, x.want) || ok != x.ok {
			t.Errorf("%d: %v, %t", i, got, ok)
		}
	}
}

func TestResolveByChance(t *testing.T) { // P5.6, P5.9
	r := rand.New(rand.NewSource(4))
	some := 0
	for range 20000 {
		a, b, v := anyClause(r, 5, r.Intn(5)), anyClause(r, 5, r.Intn(5)), r.Intn(7)-1
		if r.Intn(2) == 0 {
			a, b = append(a, v), append(b, -v)
		}
		got, ok := Resolve(a, b, v)
		rest := slices.Concat(slices.DeleteFunc(slices.Clone(a), func(l int) bool { return l == v }), slices.DeleteFunc(slices.Clone(b), func(l int) bool { return l == -v }))
		want := v > 0 && slices.Contains(a, v) && slices.Contains(b, -v) && !slices.Contains(a, -v) && !slices.Contains(b, v) && !hasBoth(rest)
		if ok != want || !ok && got != nil {
			t.Fatalf("%v, %v, %d: %v, %t", a, b, v, got, ok)
		}
		if !ok {
			continue
		}
		some++
		if clean, _ := Clean(rest); !slices.Equal(got, clean) {
			t.Fatalf("%v, %v, %d: %v, %t", a, b, v, got, ok)
		}
		for _, m := range models(5) {
			if Holds(of(5, a, b), m) && !Holds(of(5, got), m) {
				t.Fatalf("%v, %v, %d: %v does not hold in %v", a, b, v, got, m)
			}
		}
	}
	if some < 500 {
		t.Errorf("only %d", some)
	}
}

func TestPut(t *testing.T) { // P5.7
	for i, x := range []struct {
		f    Formula
		want string
	}{
		{Formula{}, "p cnf 0 0\n"},
		{of(0, nil), "p cnf 0 1\n0\n"},
		{of(2, c(1, -2)), "p cnf 2 1\n1 -2 0\n"},
		{of(4, c(1), c(-1, 2), c(-2, 3, 4)), "p cnf 4 3\n1 0\n-1 2 0\n-2 3 4 0\n"},
		{of(1<<24, c(), c(2, 2, -2), c(-1<<24)), "p cnf 16777216 3\n0\n2 2 -2 0\n-16777216 0\n"},
	} {
		text, err := Put(x.f)
		if string(text) != x.want || err != api.OK {
			t.Errorf("%d: %q, %d", i, text, err)
		}
		if got, err := Get(text); !same(got, x.f) || err != api.OK {
			t.Errorf("%d back: %v, %d", i, got, err)
		}
	}
	for name, f := range wrongFormulas() {
		if text, err := Put(f); text != nil || err != api.ErrArg {
			t.Errorf("%s: %d bytes, %d", name, len(text), err)
		}
	}
}

func TestGetRefuses(t *testing.T) { // P5.7
	bad := []string{
		"", "\n", "p", "p cnf", "p cnf 4", "p cnf 4 3", "p cnf 1 1\n2 0\n", "p cnf 1 1\n1  0\n", "p cnf 1 2\n1 0\n", "p cnf 1 0\n1 0\n",
		"p cnf 1 1\n1 0", "p cnf 01 1\n1 0\n", "p cnf 1 01\n1 0\n", "p cnf 1 1\n1 0 0\n", "p cnf 1 1\n01 0\n", "p cnf 1 1\n+1 0\n", "p cnf 1 1\n1 -0\n",
		"p cnf 1 1\n1 00\n", "p cnf 1 1\n1 1\n", "p cnf 1 1\n1\n", "p cnf 1 1\n\n", "p cnf 1 1\n 1 0\n", "p cnf 1 1\n1 0 \n", "p cnf 1 1\n1 0\n\n",
		"p cnf 1 1\n1 0\r\n", "p cnf 1 1\r\n1 0\n", "p cnf 1 1\n1\t0\n", "p  cnf 1 1\n1 0\n", " p cnf 1 1\n1 0\n", "p cnf 1 1 \n1 0\n", "p cnf 1 1 1\n1 0\n",
		"P cnf 1 1\n1 0\n", "q cnf 1 1\n1 0\n", "p dnf 1 1\n1 0\n", "pcnf 1 1\n1 0\n", "p cnf -1 0\n", "p cnf -0 0\n", "p cnf +1 0\n", "p cnf x 0\n", "p cnf 1 x\n",
		"p cnf 1 1\nx 0\n", "p cnf 1 1\n1 x\n", "p cnf 1 1\n-2 0\n", "p cnf 1 1\n--1 0\n", "p cnf 1 1\n1 0 1 0\n", "c a remark\np cnf 1 1\n1 0\n",
		"p cnf 16777217 0\n", "p cnf 99999999999999999999 0\n", "p cnf 1 99999999999999999999\n", "p cnf 1 1\n99999999999999999999 0\n",
		"p cnf 1 1\n-9223372036854775808 0\n", "p cnf 0 0", "p cnf 0 0\n\n", "p cnf 0 0\n0\n", "p cnf 1 1\x00\n1 0\n", "\xff\xfe", "p cnf 1 1\n1 0\n\xff",
		"p cnf 0 1048577\n" + strings.Repeat("0\n", api.MaxClauses+1),
	}
	for _, text := range bad {
		if got, err := Get([]byte(text)); !reflect.DeepEqual(got, Formula{}) || err != api.ErrArg {
			t.Errorf("%.60q: %v, %d", text, got, err)
		}
	}
	if got, err := Get(nil); !reflect.DeepEqual(got, Formula{}) || err != api.ErrArg {
		t.Error("nil")
	}
	most := of(0, make([][]int, api.MaxClauses)...)
	text, _ := Put(most)
	if got, err := Get(text); !same(got, most) || err != api.OK {
		t.Errorf("as many clauses as may be: %d, %d", len(got.Clauses), err)
	}
}

func TestGetByChance(t *testing.T) { // P5.7: what is read is just what is put
	r := rand.New(rand.NewSource(5))
	changed := 0
	for range 5000 {
		f := anyFormula(r)
		text, _ := Put(f)
		if got, err := Get(text); !same(got, f) || err != api.OK {
			t.Fatalf("%v: %v, %d", f, got, err)
		}
		text[r.Intn(len(text))] = " \n-0123p"[r.Intn(8)]
		got, err := Get(text)
		if err != api.OK {
			continue
		}
		changed++
		if again, err := Put(got); string(again) != string(text) || err != api.OK {
			t.Fatalf("%q: %v", text, got)
		}
	}
	if changed < 100 {
		t.Errorf("only %d", changed)
	}
}

// withBehind is the clause with other numbers behind it in its memory.
func withBehind(row []int) []int { return append(slices.Clone(row), 77, -78, 79)[:len(row)] }

func TestOnlyRead(t *testing.T) { // P5.8
	f := of(4, withBehind(c(1)), withBehind(c(-1, 2, 2)), withBehind(c(-2, 4, 3)))
	lits, a, b := withBehind(c(2, -3, 2)), withBehind(c(3, 1, 1)), withBehind(c(4, -1, 2))
	truths := []bool{true, true, false, true}
	text := []byte("p cnf 4 3\n1 0\n-1 2 2 0\n-2 4 3 0\nmore")[:32]
	before := fmt.Sprint(whole(f.Clauses...), whole(lits, a, b), truths, string(text[:cap(text)]))
	for range 2 {
		Right(f)
		Holds(f, truths)
		Assign(f, lits...)
		Units(f)
		Put(f)
		Clean(a)
		Resolve(a, b, 1)
		if _, err := Get(text); err != api.OK {
			t.Fatal(err)
		}
	}
	if after := fmt.Sprint(whole(f.Clauses...), whole(lits, a, b), truths, string(text[:cap(text)])); after != before {
		t.Errorf("%s\nbefore: %s", after, before)
	}
}

// whole is rows with what lies behind them.
func whole(rows ...[]int) [][]int {
	var all [][]int
	for _, row := range rows {
		all = append(all, row[:cap(row)])
	}
	return all
}

func TestNewMemory(t *testing.T) { // P5.8
	clean := c(1, 2, 3)
	got, _ := Clean(clean)
	scribble(got)
	resolved, _ := Resolve(clean, c(-1), 1)
	scribble(resolved)
	f := of(3, clean, clean, c(2))
	assigned, _ := Assign(f)
	assigned.Clauses[0][0] = 99
	if !slices.Equal(assigned.Clauses[1], c(1, 2, 3)) {
		t.Error("Assign's clauses share memory")
	}
	scribble(assigned.Clauses...)
	assigned.Clauses[2] = nil
	units, _ := Units(f)
	scribble(units)
	text, _ := Put(f)
	text2 := string(text)
	back, _ := Get(text)
	text[0] = 'q'
	for i, row := range back.Clauses {
		scribble(row)
		if i+1 < len(back.Clauses) && !slices.Equal(back.Clauses[i+1], f.Clauses[i+1]) {
			t.Error("Get's clauses share memory")
		}
	}
	if again, _ := Put(f); string(again) != text2 || !same(f, of(3, c(1, 2, 3), c(1, 2, 3), c(2))) {
		t.Errorf("%v", f)
	}
}

// scribble writes over rows, and over what lies behind them.
func scribble(rows ...[]int) {
	for _, row := range whole(rows...) {
		for i := range row {
			row[i] = 1000 + i
		}
	}
}

func TestExamples(t *testing.T) {
	if got, ok := Clean(c(3, -1, 3)); !slices.Equal(got, c(-1, 3)) || !ok {
		t.Error("Clean")
	}
	if _, ok := Clean(c(1, -1)); ok {
		t.Error("Clean, of both")
	}
	if got, ok := Units(of(4, c(1), c(-1, 2), c(-2, 3, 4))); !slices.Equal(got, c(1, 2)) || !ok {
		t.Error("Units")
	}
	if got, ok := Resolve(c(1, 2), c(-1, 3), 1); !slices.Equal(got, c(2, 3)) || !ok {
		t.Error("Resolve")
	}
	if got, err := Put(of(2, c(1, -2))); string(got) != "p cnf 2 1\n1 -2 0\n" || err != api.OK {
		t.Error("Put")
	}
}

package word

import (
	"math/big"
	"slices"
	"testing"

	"proofmark/api"
)

const (
	lowest  = -1 << 63
	highest = 1<<63 - 1
)

// edges are numbers near which something changes: signs, ends, powers of 2, how far a move goes.
func edges() []int64 {
	l := []int64{0, 1, 2, 3, 5, 7, 10, 31, 32, 33, 62, 63, 64, 65, 127, 128, 129, 1000, 1<<31 - 1, 1 << 31, 1 << 32, 1<<32 + 1, 1 << 62, highest - 1, highest, 0x0123456789abcdef, 0x5555555555555555}
	for _, n := range slices.Clone(l) {
		l = append(l, -n, ^n)
	}
	l = append(l, lowest, lowest+1)
	slices.Sort(l)
	return slices.Compact(l)
}

// wrongOps are operations that are none.
func wrongOps() []api.Op {
	l := []api.Op{0}
	for op := 17; op < 256; op++ {
		l = append(l, api.Op(op))
	}
	return l
}

func knownOps() []api.Op {
	var l []api.Op
	for op := api.Op(1); op <= 16; op++ {
		l = append(l, op)
	}
	return l
}

func count(n int64) *big.Int { return new(big.Int).SetUint64(uint64(n)) }

// wrapped is the number that is n modulo 2^64.
func wrapped(n *big.Int) int64 {
	return int64(new(big.Int).And(n, new(big.Int).SetUint64(1<<64-1)).Uint64())
}

func oneIf(yes bool) int64 {
	if yes {
		return 1
	}
	return 0
}

// told is the table of the chapter, reckoned on numbers of any size.
func told(op api.Op, a, b int64) int64 {
	x, y, z := big.NewInt(a), big.NewInt(b), new(big.Int)
	far := uint(b & 63)
	switch op {
	case api.Add:
		return wrapped(z.Add(x, y))
	case api.Sub:
		return wrapped(z.Sub(x, y))
	case api.Mul:
		return wrapped(z.Mul(x, y))
	case api.Div, api.DivU:
		if b == 0 {
			return -1
		}
		if op == api.DivU {
			return wrapped(z.Quo(count(a), count(b)))
		}
		return wrapped(z.Quo(x, y))
	case api.Rem, api.RemU:
		if b == 0 {
			return a
		}
		if op == api.RemU {
			return wrapped(z.Rem(count(a), count(b)))
		}
		return wrapped(z.Rem(x, y))
	case api.And:
		return wrapped(z.And(x, y))
	case api.Or:
		return wrapped(z.Or(x, y))
	case api.Xor:
		return wrapped(z.Xor(x, y))
	case api.Shl:
		return wrapped(z.Lsh(x, far))
	case api.Shr:
		return wrapped(z.Rsh(count(a), far))
	case api.Sar:
		return wrapped(z.Rsh(x, far))
	case api.Lt:
		return oneIf(x.Cmp(y) < 0)
	case api.LtU:
		return oneIf(count(a).Cmp(count(b)) < 0)
	case api.Eq:
		return oneIf(x.Cmp(y) == 0)
	}
	return 0
}

func TestKnown(t *testing.T) { // P1.1
	for _, op := range knownOps() {
		if !Known(op) {
			t.Errorf("%d is not known", op)
		}
	}
	for _, op := range wrongOps() {
		if Known(op) {
			t.Errorf("%d is known", op)
		}
	}
}

func TestDoIsTheTable(t *testing.T) { // P1.2
	for _, op := range knownOps() {
		for _, a := range edges() {
			for _, b := range edges() {
				if got, want := Do(op, a, b), told(op, a, b); got != want {
					t.Fatalf("Do(%d, %d, %d): %d, not %d", op, a, b, got, want)
				}
			}
		}
	}
}

func TestDoAtEdges(t *testing.T) { // P1.2
	for _, x := range []struct {
		op         api.Op
		a, b, want int64
	}{
		{api.Add, highest, 1, lowest}, {api.Add, lowest, lowest, 0}, {api.Sub, lowest, 1, highest}, {api.Sub, 0, lowest, lowest},
		{api.Mul, 1 << 32, 1 << 32, 0}, {api.Mul, lowest, -1, lowest}, {api.Mul, -3, 7, -21},
		{api.Div, -7, 2, -3}, {api.Div, 7, -2, -3}, {api.Div, -7, -2, 3}, {api.Div, 5, 0, -1}, {api.Div, 0, 0, -1}, {api.Div, lowest, 0, -1}, {api.Div, lowest, -1, lowest}, {api.Div, lowest, 1, lowest},
		{api.Rem, -7, 2, -1}, {api.Rem, 7, -2, 1}, {api.Rem, -7, -2, -1}, {api.Rem, 5, 0, 5}, {api.Rem, lowest, 0, lowest}, {api.Rem, lowest, -1, 0},
		{api.DivU, -1, 2, highest}, {api.DivU, 5, 0, -1}, {api.DivU, lowest, -1, 0}, {api.DivU, -1, -1, 1}, {api.DivU, 7, 2, 3},
		{api.RemU, -1, 2, 1}, {api.RemU, -5, 0, -5}, {api.RemU, lowest, -1, lowest}, {api.RemU, -1, 10, 5},
		{api.And, 12, 10, 8}, {api.Or, 12, 10, 14}, {api.Xor, 12, 10, 6}, {api.And, -1, lowest, lowest}, {api.Xor, -1, -1, 0},
		{api.Shl, 1, 63, lowest}, {api.Shl, 1, 64, 1}, {api.Shl, 1, 65, 2}, {api.Shl, 3, -1, lowest}, {api.Shl, 5, lowest, 5}, {api.Shl, 1, -63, 2},
		{api.Shr, -1, 63, 1}, {api.Shr, -1, 64, -1}, {api.Shr, -8, 1, highest - 3}, {api.Shr, -1, -1, 1}, {api.Shr, -1, highest, 1},
		{api.Sar, -8, 1, -4}, {api.Sar, lowest, 63, -1}, {api.Sar, -8, 64, -8}, {api.Sar, -8, -1, -1}, {api.Sar, 8, 65, 4},
		{api.Lt, -1, 0, 1}, {api.Lt, 0, 0, 0}, {api.Lt, highest, lowest, 0}, {api.LtU, -1, 0, 0}, {api.LtU, highest, lowest, 1}, {api.LtU, -1, 1, 0}, {api.LtU, 0, -1, 1},
		{api.Eq, 4, 4, 1}, {api.Eq, 4, 5, 0}, {api.Eq, lowest, lowest, 1},
	} {
		if got := Do(x.op, x.a, x.b); got != x.want {
			t.Errorf("Do(%d, %d, %d): %d, not %d", x.op, x.a, x.b, got, x.want)
		}
	}
}

func TestDoOfNone(t *testing.T) { // P1.2
	for _, op := range wrongOps() {
		for _, a := range []int64{lowest, -1, 0, 3, highest} {
			for _, b := range []int64{lowest, -1, 0, 3, highest} {
				if got := Do(op, a, b); got != 0 {
					t.Errorf("Do(%d, %d, %d): %d", op, a, b, got)
				}
			}
		}
	}
}

func TestAll(t *testing.T) { // P1.3
	for _, op := range append(knownOps(), wrongOps()...) {
		if All(op) != 0 || All(op, []int64{}...) != 0 {
			t.Errorf("%d, of none", op)
		}
		if All(op, -9) != -9 || All(op, lowest) != lowest {
			t.Errorf("%d, of one", op)
		}
		for _, n := range []int64{lowest, -3, 0, 7} {
			if All(op, n, 3) != Do(op, n, 3) {
				t.Errorf("%d, of two", op)
			}
			if All(op, n, 5, 2) != Do(op, Do(op, n, 5), 2) {
				t.Errorf("%d, of three", op)
			}
			if All(op, n, 5, 2, -1) != Do(op, Do(op, Do(op, n, 5), 2), -1) {
				t.Errorf("%d, of four", op)
			}
		}
	}
	if All(api.Sub, 10, 3, 2) != 5 || All(api.Shl, 1, 2, 3) != 32 || All(api.Div, 100, 5, 0) != -1 {
		t.Error("from the left on")
	}
}

func TestAllOfMany(t *testing.T) { // P1.3, and that what is handed in is only read
	l := make([]int64, 100000)
	for i := range l {
		l[i] = int64(i)
	}
	was := slices.Clone(l)
	if got := All(api.Add, l...); got != 4999950000 {
		t.Errorf("Add: %d", got)
	}
	if got := All(api.Sub, l...); got != -4999950000 {
		t.Errorf("Sub: %d", got)
	}
	if !slices.Equal(l, was) {
		t.Error("what is handed in was changed")
	}
}

// swapsAtEdges and groupsAtEdges look for numbers that tell against it: there are such among the edges for each operation of which it is false.
func swapsAtEdges(op api.Op) bool {
	for _, a := range edges() {
		for _, b := range edges() {
			if told(op, a, b) != told(op, b, a) {
				return false
			}
		}
	}
	return true
}

func groupsAtEdges(op api.Op) bool {
	l := []int64{lowest, -7, -2, -1, 0, 1, 2, 3, 5, 8, highest}
	for _, a := range l {
		for _, b := range l {
			for _, c := range l {
				if told(op, told(op, a, b), c) != told(op, a, told(op, b, c)) {
					return false
				}
			}
		}
	}
	return true
}

func TestSwapsAndGroups(t *testing.T) { // P1.4
	swap := []api.Op{api.Add, api.Mul, api.And, api.Or, api.Xor, api.Eq}
	group := []api.Op{api.Add, api.Mul, api.And, api.Or, api.Xor}
	for _, op := range knownOps() {
		if got := Swaps(op); got != slices.Contains(swap, op) || got != swapsAtEdges(op) {
			t.Errorf("Swaps(%d): %t", op, got)
		}
		if got := Groups(op); got != slices.Contains(group, op) || got != groupsAtEdges(op) {
			t.Errorf("Groups(%d): %t", op, got)
		}
	}
	for _, op := range wrongOps() {
		if Swaps(op) || Groups(op) {
			t.Errorf("%d is none", op)
		}
	}
}

func TestKeeps(t *testing.T) { // P1.5
	want := map[api.Op]int64{
		api.Add: 0, api.Sub: 0, api.Mul: 1, api.Div: 1, api.Rem: 0, api.DivU: 1, api.RemU: 0,
		api.And: -1, api.Or: 0, api.Xor: 0, api.Shl: 0, api.Shr: 0, api.Sar: 0,
	}
	for _, op := range append(knownOps(), wrongOps()...) {
		n, ok := want[op]
		if got, yes := Keeps(op); got != n || yes != ok {
			t.Errorf("Keeps(%d): %d, %t", op, got, yes)
		}
		for _, a := range edges() {
			if ok && Do(op, a, n) != a {
				t.Errorf("Do(%d, %d, %d) is another", op, a, n)
			}
		}
	}
}

func TestPower(t *testing.T) { // P1.6
	powers := map[int64]int64{}
	for k := int64(0); k < 64; k++ {
		powers[1<<k] = k
		if got, ok := Power(1 << k); got != k || !ok {
			t.Errorf("Power(2^%d): %d, %t", k, got, ok)
		}
	}
	for _, n := range append(edges(), 6, 9, 12, -8, lowest|1, 3<<61) {
		k, is := powers[n]
		if got, ok := Power(n); got != k || ok != is {
			t.Errorf("Power(%d): %d, %t", n, got, ok)
		}
	}
}

func TestHigh(t *testing.T) { // P1.7
	for _, a := range edges() {
		for _, b := range edges() {
			for _, first := range []bool{false, true} {
				for _, second := range []bool{false, true} {
					x, y := count(a), count(b)
					if first {
						x = big.NewInt(a)
					}
					if second {
						y = big.NewInt(b)
					}
					z := new(big.Int).Mul(x, y)
					if got, want := High(a, b, first, second), wrapped(z.Rsh(z, 64)); got != want {
						t.Fatalf("High(%d, %d, %t, %t): %d, not %d", a, b, first, second, got, want)
					}
				}
			}
		}
	}
	for i, got := range []int64{High(-1, -1, false, false), High(-1, -1, true, false), High(-1, -1, false, true), High(-1, -1, true, true), High(lowest, lowest, true, true), High(lowest, lowest, false, true)} {
		if want := []int64{-2, -1, -1, 0, 1 << 62, -1 << 62}[i]; got != want {
			t.Errorf("High, %d: %d, not %d", i, got, want)
		}
	}
}

func TestWhatFollows(t *testing.T) { // P1.8
	for _, a := range edges() {
		for _, b := range edges() {
			if Do(api.Add, Do(api.Mul, b, Do(api.Div, a, b)), Do(api.Rem, a, b)) != a {
				t.Errorf("Div and Rem of %d, %d", a, b)
			}
			if Do(api.Add, Do(api.Mul, b, Do(api.DivU, a, b)), Do(api.RemU, a, b)) != a {
				t.Errorf("DivU and RemU of %d, %d", a, b)
			}
			if Do(api.Sub, a, b) != Do(api.Add, a, Do(api.Sub, 0, b)) {
				t.Errorf("Sub of %d, %d", a, b)
			}
			for _, below := range []api.Op{api.Lt, api.LtU} {
				l := []int64{Do(below, a, b), Do(below, b, a), Do(api.Eq, a, b)}
				slices.Sort(l)
				if !slices.Equal(l, []int64{0, 0, 1}) {
					t.Errorf("%d of %d, %d: %d", below, a, b, l)
				}
			}
		}
		for k := int64(0); k < 64; k++ {
			if Do(api.Shl, a, k) != Do(api.Mul, a, 1<<k) {
				t.Errorf("Shl of %d by %d", a, k)
			}
		}
	}
}

func TestExamples(t *testing.T) { // the end of the chapter
	if Do(api.Div, -7, 2) != -3 || Do(api.Rem, -7, 2) != -1 || Do(api.Div, 5, 0) != -1 || Do(api.Rem, 5, 0) != 5 {
		t.Error("the first row")
	}
	if Do(api.Shl, 1, 65) != 2 || Do(api.Sar, -8, 1) != -4 || Do(api.Shr, -1, 63) != 1 || Do(api.LtU, -1, 1) != 0 {
		t.Error("the second row")
	}
	k, is := Power(8)
	n, has := Keeps(api.Mul)
	if k != 3 || !is || n != 1 || !has || High(-1, -1, false, false) != -2 {
		t.Error("the third row")
	}
}

package word

import (
	"math"
	"math/big"
	"strings"
	"testing"

	"mortise/api"
)

const opNames = "add sub mul divs divu rems remu and or xor shl shrs shru eq ne lts ltu les leu"

func allOps() []api.BinOp {
	return []api.BinOp{
		api.OpAdd, api.OpSub, api.OpMul, api.OpDivS, api.OpDivU, api.OpRemS, api.OpRemU, api.OpAnd, api.OpOr, api.OpXor,
		api.OpShl, api.OpShrS, api.OpShrU, api.OpEq, api.OpNe, api.OpLtS, api.OpLtU, api.OpLeS, api.OpLeU,
	}
}

// noOps are numbers that are none of the nineteen operations.
func noOps() []api.BinOp {
	return []api.BinOp{0, -1, -2, -19, 20, 21, 32, 33, 100, 257, mostUInt + 2, math.MaxInt, math.MinInt, math.MinInt + 1}
}

// want answers what P1.4 asks, reckoned in numbers without bounds; nil where there is no answer.
func want(op api.BinOp, a, b uint32) *big.Int {
	ua, ub := big.NewInt(int64(a)), big.NewInt(int64(b))
	sa, sb := big.NewInt(int64(int32(a))), big.NewInt(int64(int32(b)))
	places := uint(b & 31)
	r := new(big.Int)
	switch op {
	case api.OpAdd:
		return r.Add(ua, ub)
	case api.OpSub:
		return r.Sub(ua, ub)
	case api.OpMul:
		return r.Mul(ua, ub)
	case api.OpDivS, api.OpDivU, api.OpRemS, api.OpRemU:
		if b == 0 {
			return nil
		}
		if op == api.OpDivS {
			return r.Quo(sa, sb)
		} else if op == api.OpDivU {
			return r.Quo(ua, ub)
		} else if op == api.OpRemS {
			return r.Rem(sa, sb)
		}
		return r.Rem(ua, ub)
	case api.OpAnd:
		return r.And(ua, ub)
	case api.OpOr:
		return r.Or(ua, ub)
	case api.OpXor:
		return r.Xor(ua, ub)
	case api.OpShl:
		return r.Lsh(ua, places)
	case api.OpShrS:
		return r.Rsh(sa, places)
	case api.OpShrU:
		return r.Rsh(ua, places)
	}
	return wantTruth(op, ua.Cmp(ub), sa.Cmp(sb))
}

// wantTruth tells of a comparison by how the two are ordered from 0 on and as signed numbers.
func wantTruth(op api.BinOp, order, signedOrder int) *big.Int {
	yes := false
	switch op {
	case api.OpEq:
		yes = order == 0
	case api.OpNe:
		yes = order != 0
	case api.OpLtS:
		yes = signedOrder < 0
	case api.OpLtU:
		yes = order < 0
	case api.OpLeS:
		yes = signedOrder <= 0
	case api.OpLeU:
		yes = order <= 0
	}
	if yes {
		return big.NewInt(1)
	}
	return new(big.Int)
}

// lowest answers the lowest 32 bits of a number, of two's complement where it is below 0.
func lowest(n *big.Int) uint32 {
	return uint32(new(big.Int).And(n, big.NewInt(mostUInt)).Uint64())
}

func TestP1_4Examples(t *testing.T) {
	for _, c := range []struct {
		op         api.BinOp
		a, b, want int
	}{
		{api.OpAdd, mostInt, 1, leastInt}, {api.OpAdd, -1, 1, 0}, {api.OpSub, 0, 1, -1}, {api.OpSub, leastInt, 1, mostInt},
		{api.OpMul, 0x10001, 0x10001, 0x20001}, {api.OpMul, -3, 5, -15}, {api.OpMul, leastInt, -1, leastInt},
		{api.OpDivS, -7, 2, -3}, {api.OpDivS, 7, -2, -3}, {api.OpDivS, -7, -2, 3}, {api.OpDivS, leastInt, -1, leastInt},
		{api.OpRemS, -7, 2, -1}, {api.OpRemS, 7, -2, 1}, {api.OpRemS, -7, -2, -1}, {api.OpRemS, leastInt, -1, 0},
		{api.OpDivU, -7, 2, 0x7ffffffc}, {api.OpDivU, leastInt, -1, 0}, {api.OpRemU, -7, 2, 1}, {api.OpRemU, leastInt, -1, leastInt},
		{api.OpAnd, 12, 10, 8}, {api.OpOr, 12, 10, 14}, {api.OpXor, 12, 10, 6},
		{api.OpShl, 1, 31, leastInt}, {api.OpShl, 1, 32, 1}, {api.OpShl, 1, 33, 2}, {api.OpShl, 1, -1, leastInt},
		{api.OpShrS, -8, 1, -4}, {api.OpShrS, -8, 32, -8}, {api.OpShrS, leastInt, 31, -1}, {api.OpShrS, 8, 65, 4},
		{api.OpShrU, -8, 1, 0x7ffffffc}, {api.OpShrU, -8, 32, -8}, {api.OpShrU, leastInt, 31, 1}, {api.OpShrU, 8, 65, 4},
		{api.OpEq, 3, 3, 1}, {api.OpEq, 3, 4, 0}, {api.OpNe, 3, 3, 0}, {api.OpNe, 3, 4, 1},
		{api.OpLtS, -1, 1, 1}, {api.OpLtS, 1, -1, 0}, {api.OpLtS, 1, 1, 0}, {api.OpLtU, -1, 1, 0}, {api.OpLtU, 1, -1, 1}, {api.OpLtU, 1, 1, 0},
		{api.OpLeS, -1, 1, 1}, {api.OpLeS, 1, -1, 0}, {api.OpLeS, -1, -1, 1}, {api.OpLeU, -1, 1, 0}, {api.OpLeU, 1, -1, 1}, {api.OpLeU, -1, -1, 1},
	} {
		if got, ok := Bin(c.op, Of(c.a), Of(c.b)); !ok || Int(got) != c.want {
			t.Errorf("%s %d %d = %d, %v, want %d", Name(c.op), c.a, c.b, Int(got), ok, c.want)
		}
	}
}

func TestP1_4All(t *testing.T) {
	for _, op := range allOps() {
		for _, a := range edges() {
			for _, b := range edges() {
				got, ok := Bin(op, a, b)
				answer := want(op, a, b)
				if answer == nil && (ok || got != 0) {
					t.Fatalf("op %d of %#x and %#x = %#x, %v, want 0 and false", op, a, b, got, ok)
				}
				if answer != nil && (!ok || got != lowest(answer)) {
					t.Fatalf("op %d of %#x and %#x = %#x, %v, want %#x", op, a, b, got, ok, lowest(answer))
				}
			}
		}
	}
}

func TestP1_4Refused(t *testing.T) {
	for _, op := range []api.BinOp{api.OpDivS, api.OpDivU, api.OpRemS, api.OpRemU} {
		for _, a := range edges() {
			if got, ok := Bin(op, a, 0); ok || got != 0 {
				t.Errorf("op %d of %#x and 0 = %#x, %v", op, a, got, ok)
			}
		}
	}
	for _, op := range noOps() {
		for _, b := range []uint32{0, 1, 5, 0xffffffff} {
			if got, ok := Bin(op, 7, b); ok || got != 0 {
				t.Errorf("op %d of 7 and %#x = %#x, %v", op, b, got, ok)
			}
		}
	}
}

func TestP1_5Name(t *testing.T) {
	words := strings.Fields(opNames)
	for i, op := range allOps() {
		if got := Name(op); got != words[i] {
			t.Errorf("Name(%d) = %q, want %q", op, got, words[i])
		}
	}
	for _, op := range noOps() {
		if got := Name(op); got != "" {
			t.Errorf("Name(%d) = %q, want nothing", op, got)
		}
	}
}

// must does an operation that has an answer.
func must(t *testing.T, op api.BinOp, a, b uint32) uint32 {
	t.Helper()
	v, ok := Bin(op, a, b)
	if !ok {
		t.Fatalf("op %d of %#x and %#x is refused", op, a, b)
	}
	return v
}

func TestP1_6Operations(t *testing.T) {
	for _, a := range edges() {
		for _, b := range edges() {
			for _, op := range []api.BinOp{api.OpAdd, api.OpMul} {
				if must(t, op, a, b) != must(t, op, b, a) {
					t.Errorf("op %d hangs on the order of %#x and %#x", op, a, b)
				}
			}
			if must(t, api.OpAdd, must(t, api.OpSub, a, b), b) != a {
				t.Errorf("(%#x - %#x) + %#x", a, b, b)
			}
			if b == 0 {
				continue
			}
			for _, pair := range [][2]api.BinOp{{api.OpDivS, api.OpRemS}, {api.OpDivU, api.OpRemU}} {
				product := must(t, api.OpMul, must(t, pair[0], a, b), b)
				if must(t, api.OpAdd, product, must(t, pair[1], a, b)) != a {
					t.Errorf("op %d: quotient and remainder of %#x by %#x", pair[0], a, b)
				}
			}
		}
	}
}

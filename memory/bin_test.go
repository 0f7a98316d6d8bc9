package memory

import (
	"testing"

	"mortise/api"
	"mortise/word"
)

// wantBin asks for what an operation gives.
func wantBin(t *testing.T, m *Memory, op api.BinOp, a, b, want api.Val, stop api.Stop) {
	t.Helper()
	if got, s := m.Bin(op, a, b); got != want || s != stop {
		t.Errorf("Bin(%d, %v, %v) = %v, %d, want %v, %d", op, a, b, got, s, want, stop)
	}
}

// undefinedBin asks that an operation is undefined.
func undefinedBin(t *testing.T, m *Memory, op api.BinOp, a, b api.Val) {
	t.Helper()
	wantBin(t, m, op, a, b, api.Val{}, api.StopUndef)
}

// edges are numbers at which something turns.
func edges() []uint32 {
	return []uint32{
		0, 1, 2, 3, 4, 7, 8, 9, 31, 32, 33, 255, 256, 16383, 16384, 16385, 65535, 65536,
		1<<31 - 1, 1 << 31, 1<<31 + 1, 1<<32 - 16384, 1<<32 - 9, 1<<32 - 8, 1<<32 - 4, 1<<32 - 2, 1<<32 - 1,
	}
}

// TestP11_4Numbers: of two numbers it is layer 1's, whatever the Block of a number says.
func TestP11_4Numbers(t *testing.T) {
	m := New()
	for _, op := range allOps() {
		for _, a := range edges() {
			for _, b := range edges() {
				v, ok := word.Bin(op, a, b)
				left, right := num(a), num(b)
				left.Block, right.Block = 5, -1
				if ok {
					wantBin(t, m, op, left, right, num(v), 0)
				} else {
					wantBin(t, m, op, left, right, api.Val{}, api.StopZero)
				}
			}
		}
	}
	wantBin(t, m, api.OpSub, num(2), num(5), below(3), 0)
	for _, op := range []api.BinOp{api.OpDivS, api.OpDivU, api.OpRemS, api.OpRemU} {
		wantBin(t, m, op, num(7), num(0), api.Val{}, api.StopZero)
		wantBin(t, m, op, num(0), num(0), api.Val{}, api.StopZero)
	}
}

// TestP11_4NoOp: what is none of the nineteen is undefined, of numbers too.
func TestP11_4NoOp(t *testing.T) {
	m := newWith(t, 4, 8, 8)
	for _, op := range noOps() {
		for _, a := range []api.Val{num(0), num(7), ptr(1, 0), ptr(2, 8), {}} {
			for _, b := range []api.Val{num(0), num(1), ptr(1, 0), ptr(2, 4), {}} {
				undefinedBin(t, m, op, a, b)
			}
		}
	}
}

// TestP11_4NoValue: what is neither a number nor a pointer is undefined on either side, also where a division by zero stands beside it.
func TestP11_4NoValue(t *testing.T) {
	m := newWith(t, 4, 8)
	for _, op := range allOps() {
		for _, k := range noKinds() {
			none := api.Val{Kind: k, V: 1, Block: 1}
			for _, other := range []api.Val{num(0), num(1), ptr(1, 0), ptr(1, 8), none} {
				undefinedBin(t, m, op, none, other)
				undefinedBin(t, m, op, other, none)
			}
		}
	}
}

func TestP11_4Move(t *testing.T) {
	m := newWith(t, 4, 8, 16384)
	for _, c := range []struct {
		p    api.Val
		by   int
		want int // -1: undefined
	}{
		{ptr(1, 0), 0, 0}, {ptr(1, 0), 1, 1}, {ptr(1, 0), 8, 8}, {ptr(1, 0), 9, -1}, {ptr(1, 0), -1, -1}, {ptr(1, 8), 0, 8}, {ptr(1, 8), 1, -1}, {ptr(1, 8), -8, 0},
		{ptr(1, 8), -9, -1}, {ptr(1, 3), 5, 8}, {ptr(1, 3), 6, -1}, {ptr(1, 3), -3, 0}, {ptr(1, 3), -4, -1}, {ptr(1, 3), -2, 1},
		{ptr(1, 0), 1<<31 - 1, -1}, {ptr(1, 8), 1<<31 - 1, -1}, {ptr(1, 0), -1 << 31, -1}, {ptr(1, 8), -1 << 31, -1}, {ptr(1, 4), 1 - 1<<31, -1},
		{ptr(2, 0), 16384, 16384}, {ptr(2, 0), 16385, -1}, {ptr(2, 16384), -16384, 0}, {ptr(2, 16384), -16385, -1}, {ptr(2, 16384), 0, 16384}, {ptr(2, 8192), 8192, 16384},
	} {
		n, back := num(word.Of(c.by)), num(word.Of(-c.by))
		want, stop := ptr(c.p.Block, uint32(c.want)), api.Stop(0)
		if c.want < 0 {
			want, stop = api.Val{}, api.StopUndef
		}
		wantBin(t, m, api.OpAdd, c.p, n, want, stop)
		wantBin(t, m, api.OpAdd, n, c.p, want, stop)
		wantBin(t, m, api.OpSub, c.p, back, want, stop)
		undefinedBin(t, m, api.OpSub, n, c.p)
		undefinedBin(t, m, api.OpSub, back, c.p)
	}
	odd := num(2)
	odd.Block = 2 // of a number it says nothing
	wantBin(t, m, api.OpAdd, ptr(1, 1), odd, ptr(1, 3), 0)
}

func TestP11_4OneBlock(t *testing.T) {
	m := newWith(t, 4, 8, 8)
	for a := range uint32(9) {
		for b := range uint32(9) {
			p, q := ptr(1, a), ptr(1, b)
			wantBin(t, m, api.OpSub, p, q, num(a-b), 0)
			for _, c := range []struct {
				op  api.BinOp
				yes bool
			}{
				{api.OpEq, a == b}, {api.OpNe, a != b}, {api.OpLtS, a < b}, {api.OpLtU, a < b}, {api.OpLeS, a <= b}, {api.OpLeU, a <= b},
			} {
				want := num(0)
				if c.yes {
					want = num(1)
				}
				wantBin(t, m, c.op, p, q, want, 0)
			}
		}
	}
	wantBin(t, m, api.OpSub, ptr(1, 2), ptr(1, 5), below(3), 0)
	wantBin(t, m, api.OpSub, ptr(1, 8), ptr(1, 0), num(8), 0)
}

// TestP11_4TwoBlocks: pointers into two blocks can be asked just whether they are equal, and only where neither is at its block's end.
func TestP11_4TwoBlocks(t *testing.T) {
	m := newWith(t, 4, 8, 12)
	for a := range uint32(9) {
		for b := range uint32(13) {
			p, q := ptr(1, a), ptr(2, b)
			for _, op := range allOps() {
				want, stop := api.Val{}, api.StopUndef
				if a < 8 && b < 12 && op == api.OpEq {
					want, stop = num(0), 0
				}
				if a < 8 && b < 12 && op == api.OpNe {
					want, stop = num(1), 0
				}
				wantBin(t, m, op, p, q, want, stop)
				wantBin(t, m, op, q, p, want, stop)
			}
		}
	}
}

// TestP11_4Zero: a pointer is not equal to the number 0, wherever it points, and is held against no other number.
func TestP11_4Zero(t *testing.T) {
	m := newWith(t, 4, 8)
	for _, v := range []uint32{0, 1, 7, 8} {
		for _, n := range edges() {
			for _, op := range []api.BinOp{api.OpEq, api.OpNe} {
				want, stop := api.Val{}, api.StopUndef
				if n == 0 {
					want, stop = num(uint32(op-api.OpEq)), 0
				}
				wantBin(t, m, op, ptr(1, v), num(n), want, stop)
				wantBin(t, m, op, num(n), ptr(1, v), want, stop)
			}
		}
	}
}

// TestP11_4AllElse: all that is not named is undefined.
func TestP11_4AllElse(t *testing.T) {
	m := newWith(t, 4, 8)
	for _, op := range allOps() {
		switch op {
		case api.OpAdd, api.OpSub, api.OpEq, api.OpNe:
			continue
		}
		for _, v := range []uint32{0, 4, 8} {
			for _, n := range []uint32{0, 1, 4, 1<<32 - 1} {
				undefinedBin(t, m, op, ptr(1, v), num(n))
				undefinedBin(t, m, op, num(n), ptr(1, v))
			}
		}
	}
	for _, op := range []api.BinOp{
		api.OpAdd, api.OpMul, api.OpDivS, api.OpDivU, api.OpRemS, api.OpRemU, api.OpAnd, api.OpOr, api.OpXor, api.OpShl, api.OpShrS, api.OpShrU,
	} {
		for _, v := range []uint32{0, 4, 8} {
			undefinedBin(t, m, op, ptr(1, v), ptr(1, v))
			undefinedBin(t, m, op, ptr(1, v), ptr(1, 0))
			undefinedBin(t, m, op, ptr(1, 0), ptr(1, v))
		}
	}
}

// TestP11_4NotGood: a pointer that is not good is undefined on either side, in one block and in two, beside numbers and beside itself.
func TestP11_4NotGood(t *testing.T) {
	m := newWith(t, 4, 8, 8, 8)
	mustEnd(t, m, 2)
	for _, p := range []api.Val{ptr(1, 9), ptr(1, 1<<31), ptr(1, 1<<32-1), ptr(2, 0), ptr(2, 8), ptr(0, 0), ptr(-1, 0), ptr(4, 0)} {
		wantNothingAt(t, m, p)
		for _, op := range allOps() {
			undefinedBin(t, m, op, p, ptr(3, 0))
			undefinedBin(t, m, op, ptr(3, 0), p)
			undefinedBin(t, m, op, num(1<<32-9), p)
			undefinedBin(t, m, op, p, num(1<<32-9))
		}
	}
}

func TestP11_4Truth(t *testing.T) {
	m := newWith(t, 4, 8, 8)
	mustEnd(t, m, 2)
	for _, c := range []struct {
		v    api.Val
		yes  bool
		stop api.Stop
	}{
		{num(0), false, 0}, {num(1), true, 0}, {num(256), true, 0}, {num(65536), true, 0}, {num(1 << 31), true, 0}, {below(1), true, 0},
		{api.Val{Kind: api.ValNum, Block: 1}, false, 0}, {api.Val{Kind: api.ValNum, V: 9, Block: -1}, true, 0},
		{ptr(1, 0), true, 0}, {ptr(1, 1), true, 0}, {ptr(1, 8), true, 0},
		{ptr(1, 9), false, api.StopUndef}, {ptr(2, 0), false, api.StopUndef}, {ptr(3, 0), false, api.StopUndef}, {ptr(0, 0), false, api.StopUndef}, {ptr(-1, 1), false, api.StopUndef},
	} {
		if yes, s := m.Truth(c.v); yes != c.yes || s != c.stop {
			t.Errorf("Truth(%v) = %v, %d, want %v, %d", c.v, yes, s, c.yes, c.stop)
		}
	}
	for _, k := range noKinds() {
		for _, v := range []uint32{0, 1} {
			none := api.Val{Kind: k, V: v, Block: 1}
			if yes, s := m.Truth(none); yes || s != api.StopUndef {
				t.Errorf("Truth(%v) = %v, %d", none, yes, s)
			}
		}
	}
}

// TestP11_4ChangesNothing: neither Bin nor Truth changes a byte.
func TestP11_4ChangesNothing(t *testing.T) {
	m := marked(t, 4, 8, 2)
	unchanged(t, m, func() {
		for _, op := range allOps() {
			for _, a := range []api.Val{num(0), num(3), ptr(1, 0), ptr(2, 8), {}} {
				for _, b := range []api.Val{num(0), num(1), ptr(1, 4), ptr(2, 2), {}} {
					m.Bin(op, a, b)
				}
				m.Truth(a)
			}
		}
	})
}

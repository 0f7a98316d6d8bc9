package conv

import (
	"math"
	"testing"

	"mortise/api"
)

// TestP7_5Examples: the chapter's examples.
func TestP7_5Examples(t *testing.T) {
	if v, err := Fold(api.TUChar, api.OpAdd, 250, 10); v != 4 || err != api.OK {
		t.Errorf("250 + 10 = %d, %d", v, err)
	}
	if v, err := Fold(api.TInt, api.OpDivS, 1, 0); v != 0 || err != api.ErrZero {
		t.Errorf("1 / 0 = %d, %d", v, err)
	}
}

// edgeNumbers are numbers at which kinds and operations have edges.
func edgeNumbers() []uint32 {
	return []uint32{0, 1, 2, 5, 31, 32, 33, 127, 128, 129, 250, 255, 256, 257, 32767, 32768, 65535, 65536, 0x7fffffff, 0x80000000, 0x80000001, 0xffff8000, 0xffffff80, 0xfffffff9, 0xfffffffe, 0xffffffff}
}

// reckoned is what an operation comes to, told by wider numbers, and false where there is nothing.
func reckoned(op api.BinOp, a, b uint32) (uint32, bool) {
	x, y := int64(int32(a)), int64(int32(b))
	u, w := uint64(a), uint64(b)
	yes := map[bool]uint32{true: 1}
	switch op {
	case api.OpAdd:
		return uint32(u + w), true
	case api.OpSub:
		return uint32(u - w), true
	case api.OpMul:
		return uint32(u * w), true
	case api.OpAnd:
		return a & b, true
	case api.OpOr:
		return a | b, true
	case api.OpXor:
		return a ^ b, true
	case api.OpShl:
		return uint32(u << (b % 32)), true
	case api.OpShrS:
		return uint32(x >> (b % 32)), true
	case api.OpShrU:
		return uint32(u >> (b % 32)), true
	case api.OpEq:
		return yes[a == b], true
	case api.OpNe:
		return yes[a != b], true
	case api.OpLtS:
		return yes[x < y], true
	case api.OpLtU:
		return yes[u < w], true
	case api.OpLeS:
		return yes[x <= y], true
	case api.OpLeU:
		return yes[u <= w], true
	}
	if b == 0 {
		return 0, false
	}
	switch op {
	case api.OpDivS:
		return uint32(x / y), true
	case api.OpDivU:
		return uint32(u / w), true
	case api.OpRemS:
		return uint32(x % y), true
	}
	return uint32(u % w), true // OpRemU
}

// held is a number as a kind holds it.
func held(k api.TypeKind, v uint32) uint32 {
	switch k {
	case api.TBool:
		return min(v, 1)
	case api.TChar, api.TSChar:
		return uint32(int32(v<<24) >> 24)
	case api.TUChar:
		return v % 256
	case api.TShort:
		return uint32(int32(v<<16) >> 16)
	case api.TUShort:
		return v % 65536
	}
	return v
}

// TestP7_5All: each operation and each integer, at all pairs of edge numbers.
func TestP7_5All(t *testing.T) {
	for k := api.TBool; k <= api.TEnum; k++ {
		for op := api.OpAdd; op <= api.OpLeU; op++ {
			for _, a := range edgeNumbers() {
				for _, b := range edgeNumbers() {
					v, ok := reckoned(op, a, b)
					want, wantErr := held(k, v), api.OK
					if !ok {
						want, wantErr = 0, api.ErrZero
					}
					if got, err := Fold(k, op, a, b); got != want || err != wantErr {
						t.Fatalf("Fold(%d, %d, %#x, %#x) = %#x, %d, want %#x, %d", k, op, a, b, got, err, want, wantErr)
					}
				}
			}
		}
	}
}

// TestP7_5Whole: operands are taken as they are; what comes is converted.
func TestP7_5Whole(t *testing.T) {
	for _, c := range []struct {
		k    api.TypeKind
		op   api.BinOp
		a, b uint32
		want uint32
	}{
		{api.TUChar, api.OpEq, 256, 0, 0},
		{api.TUChar, api.OpDivU, 512, 256, 2},
		{api.TUChar, api.OpShrU, 0xff00, 8, 0xff},
		{api.TChar, api.OpShrU, 0xff00, 8, 0xffffffff},
		{api.TBool, api.OpAdd, 1, 1, 1},
		{api.TBool, api.OpAdd, 0xffffffff, 1, 0},
		{api.TBool, api.OpMul, 256, 2, 1},
		{api.TUShort, api.OpSub, 0, 1, 65535},
		{api.TShort, api.OpAdd, 32767, 1, 0xffff8000},
		{api.TInt, api.OpDivS, 0x80000000, 0xffffffff, 0x80000000},
		{api.TInt, api.OpRemS, 0xfffffff9, 2, 0xffffffff},
		{api.TUInt, api.OpRemS, 0xfffffff9, 2, 0xffffffff},
		{api.TInt, api.OpDivU, 0xfffffffe, 2, 0x7fffffff},
		{api.TLong, api.OpShl, 1, 33, 2},
		{api.TEnum, api.OpShrS, 0x80000000, 31, 0xffffffff},
	} {
		if v, err := Fold(c.k, c.op, c.a, c.b); v != c.want || err != api.OK {
			t.Errorf("Fold(%d, %d, %#x, %#x) = %#x, %d, want %#x, 0", c.k, c.op, c.a, c.b, v, err, c.want)
		}
	}
}

// TestP7_5ByZero: divisions and remainders by 0, in every integer.
func TestP7_5ByZero(t *testing.T) {
	for k := api.TBool; k <= api.TEnum; k++ {
		for _, op := range []api.BinOp{api.OpDivS, api.OpDivU, api.OpRemS, api.OpRemU} {
			for _, a := range edgeNumbers() {
				if v, err := Fold(k, op, a, 0); v != 0 || err != api.ErrZero {
					t.Errorf("Fold(%d, %d, %#x, 0) = %#x, %d, want 0, %d", k, op, a, v, err, api.ErrZero)
				}
			}
		}
	}
}

// TestP7_5Refused: kinds that are no integers and numbers that are no operation, also by 0.
func TestP7_5Refused(t *testing.T) {
	refused := func(k api.TypeKind, op api.BinOp) {
		t.Helper()
		for _, b := range []uint32{0, 1, 7} {
			if v, err := Fold(k, op, 7, b); v != 0 || err != api.ErrKind {
				t.Errorf("Fold(%d, %d, 7, %d) = %d, %d, want 0, %d", k, op, b, v, err, api.ErrKind)
			}
		}
	}
	strangeOps := []api.BinOp{0, -1, -4, 20, 21, 256 + 1, math.MinInt, math.MaxInt, math.MinInt32, math.MaxInt32}
	for _, k := range append(strangeKinds(), otherKinds()...) {
		for op := api.OpAdd; op <= api.OpLeU; op++ {
			refused(k, op)
		}
		for _, op := range strangeOps {
			refused(k, op)
		}
	}
	for k := api.TBool; k <= api.TEnum; k++ {
		for _, op := range strangeOps {
			refused(k, op)
		}
	}
}

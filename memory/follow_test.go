package memory

import (
	"slices"
	"testing"

	"mortise/api"
	"mortise/word"
)

// kindOf is a kind whose numbers have that width and that sign.
func kindOf(width int, signed bool) api.TypeKind {
	kinds := map[int][2]api.TypeKind{1: {api.TUChar, api.TSChar}, 2: {api.TUShort, api.TShort}, 4: {api.TUInt, api.TInt}}
	if signed {
		return kinds[width][1]
	}
	return kinds[width][0]
}

// TestP11_5LoadOfStore: what is stored is loaded, converted to the width, and no other byte turns.
func TestP11_5LoadOfStore(t *testing.T) {
	const size = 264
	for _, width := range []int{1, 2, 4} {
		for v := 0; v+width <= size; v += width {
			m := marked(t, 4, size, 2)
			before := picture(m, 2)
			for _, x := range []uint32{0, 1, 0x7f, 0x80, 0xff, 0x7fff, 0x8000, 0x12345678, 0x89abcdef, 1<<32 - 1} {
				mustStore(t, m, ptr(1, uint32(v)), width, num(x))
				for _, signed := range []bool{false, true} {
					wantLoad(t, m, ptr(1, uint32(v)), width, signed, num(word.Convert(kindOf(width, signed), x)))
				}
				after := picture(m, 2)
				copy(after[1][v:v+width], before[1][v:v+width])
				if !samePicture(before, after) {
					t.Fatalf("Store by %d at %d turned other bytes: %v, want %v", width, v, after, before)
				}
			}
		}
	}
}

// TestP11_5LoadOfPointer: a pointer that is stored is loaded, and no other byte turns.
func TestP11_5LoadOfPointer(t *testing.T) {
	const size = 264
	for v := 0; v < size; v += 4 {
		m := marked(t, 4, size, 2)
		before := picture(m, 2)
		for _, p := range []api.Val{ptr(1, 0), ptr(2, size), ptr(7, 1<<32-1)} {
			mustStore(t, m, ptr(2, uint32(v)), 4, p)
			wantLoad(t, m, ptr(2, uint32(v)), 4, true, p)
			after := picture(m, 2)
			copy(after[2][v:v+4], before[2][v:v+4])
			if !samePicture(before, after) {
				t.Fatalf("Store at %d turned other bytes: %v, want %v", v, after, before)
			}
		}
	}
}

// TestP11_5LoadOfCopy: a copy is loaded as what was copied, or cannot be loaded likewise.
func TestP11_5LoadOfCopy(t *testing.T) {
	m := marked(t, 4, 64, 2)
	mustStore(t, m, ptr(1, 8), 4, ptr(2, 5))
	mustStore(t, m, ptr(1, 12), 4, num(0x89abcdef))
	if s := m.Copy(ptr(2, 24), ptr(1, 0), 32, 4); s != 0 {
		t.Fatalf("Copy: stop %d", s)
	}
	for _, width := range []int{1, 2, 4} {
		for v := 0; v+width <= 32; v += width {
			for _, signed := range []bool{false, true} {
				one, first := m.Load(ptr(1, uint32(v)), width, signed)
				two, second := m.Load(ptr(2, uint32(v+24)), width, signed)
				if one != two || first != second {
					t.Errorf("%d bytes at %d are %v, %d, and copied %v, %d", width, v, one, first, two, second)
				}
			}
		}
	}
	wantLoad(t, m, ptr(2, 32), 4, false, ptr(2, 5))
	wantLoad(t, m, ptr(2, 36), 4, false, num(0x89abcdef))
}

// TestP11_5ThereAndBack: p + n - n is p, where it is defined, and so is p - n + n; and what is between them is n.
func TestP11_5ThereAndBack(t *testing.T) {
	m := newWith(t, 4, 40)
	for v := range uint32(41) {
		for by := -45; by <= 45; by++ {
			p, n := ptr(1, v), num(word.Of(by))
			for _, ops := range [][2]api.BinOp{{api.OpAdd, api.OpSub}, {api.OpSub, api.OpAdd}} {
				q, s := m.Bin(ops[0], p, n)
				if s != 0 {
					continue
				}
				wantBin(t, m, ops[1], q, n, p, 0)
				if ops[0] == api.OpAdd {
					wantBin(t, m, api.OpSub, q, p, n, 0)
				}
			}
		}
	}
}

// TestP11_5TwoMemories: two memories know nothing of each other.
func TestP11_5TwoMemories(t *testing.T) {
	one, two := New(), New()
	mustMake(t, one, 8, 4)
	mustStore(t, one, ptr(1, 0), 4, num(1))
	wantNoBlock(t, two, 1)
	if n := mustMake(t, two, 16, 2); n != 1 {
		t.Errorf("the first block of the second memory is %d", n)
	}
	wantCells(t, two, 1, unset(16))
	mustStore(t, two, ptr(1, 8), 2, num(7))
	wantCells(t, one, 1, bytesOf(1, 0, 0, 0), unset(4))
	wantNoLoad(t, one, ptr(1, 8), 1)
	mustEnd(t, two, 1)
	wantLoad(t, one, ptr(1, 0), 4, false, num(1))
	mustMake(t, two, 1, 1)
	if n := mustMake(t, one, 1, 1); n != 2 {
		t.Errorf("the second block of the first memory is %d", n)
	}
}

// TestP11_5Again: the same calls answer the same, whether they are done to one memory or to two.
func TestP11_5Again(t *testing.T) {
	run := func() []api.Cell {
		m := newWith(t, 4, 16, 16)
		mustStore(t, m, ptr(1, 0), 4, ptr(2, 3))
		mustStore(t, m, ptr(1, 5), 1, num(9))
		m.Copy(ptr(2, 4), ptr(1, 0), 8, 4)
		m.Copy(ptr(2, 5), ptr(2, 4), 8, 1)
		m.Zero(ptr(2, 6), 1)
		cells, _ := m.Cells(2)
		again, _ := m.Cells(2)
		if !slices.Equal(cells, again) {
			t.Errorf("Cells is first %v and then %v", cells, again)
		}
		return cells
	}
	if one, two := run(), run(); !slices.Equal(one, two) {
		t.Errorf("first %v and then %v", one, two)
	}
}

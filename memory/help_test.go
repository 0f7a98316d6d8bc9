package memory

import (
	"math"
	"slices"
	"testing"

	"mortise/api"
)

func num(v uint32) api.Val { return api.Val{Kind: api.ValNum, V: v} }

func ptr(block int, v uint32) api.Val { return api.Val{Kind: api.ValPtr, V: v, Block: block} }

// below is a number that is below 0 as an int.
func below(n int32) api.Val { return num(uint32(-n)) }

func byteCell(v uint32) api.Cell { return api.Cell{Kind: api.ValNum, V: v} }

func partCell(block int, v uint32, part int) api.Cell {
	return api.Cell{Kind: api.ValPtr, V: v, Block: block, Part: part}
}

// bytesOf are cells of those bytes.
func bytesOf(list ...uint32) []api.Cell {
	var cells []api.Cell
	for _, v := range list {
		cells = append(cells, byteCell(v))
	}
	return cells
}

// partsOf are the cells that a pointer is stored as.
func partsOf(block int, v uint32) []api.Cell {
	return []api.Cell{partCell(block, v, 0), partCell(block, v, 1), partCell(block, v, 2), partCell(block, v, 3)}
}

// unset are n cells that are not set.
func unset(n int) []api.Cell { return make([]api.Cell, n) }

func allOps() []api.BinOp {
	return []api.BinOp{
		api.OpAdd, api.OpSub, api.OpMul, api.OpDivS, api.OpDivU, api.OpRemS, api.OpRemU, api.OpAnd, api.OpOr, api.OpXor,
		api.OpShl, api.OpShrS, api.OpShrU, api.OpEq, api.OpNe, api.OpLtS, api.OpLtU, api.OpLeS, api.OpLeU,
	}
}

// noOps are numbers that are none of the nineteen operations; some are one of them, if taken modulo 2^8 or 2^32.
func noOps() []api.BinOp {
	return []api.BinOp{0, -1, -2, -14, -19, 20, 21, 32, 33, 46, 256 + 1, 256 + 14, 1<<32 + 1, 1<<32 + 14, math.MaxInt, math.MinInt, math.MinInt + 1}
}

// noKinds are numbers that are no kinds of values that can be had, nothing among them.
func noKinds() []api.ValKind {
	return []api.ValKind{api.ValNone, -1, -2, 3, 4, 256 + 1, 256 + 2, 1<<32 + 1, 1<<32 + 2, math.MaxInt, math.MinInt, math.MinInt + 2}
}

// noWidths are numbers that are no widths; some are one, if taken modulo 2^8 or 2^32.
func noWidths() []int {
	return []int{0, -1, -2, -4, 3, 5, 6, 7, 8, 16, 32, 256 + 4, 1<<32 + 1, 1<<32 + 2, 1<<32 + 4, math.MaxInt, math.MinInt, math.MinInt + 4}
}

// mustMake makes a block that may be.
func mustMake(t *testing.T, m *Memory, size, align int) int {
	t.Helper()
	n, err := m.Make(size, align)
	if err != api.OK {
		t.Fatalf("Make(%d, %d): error %d", size, align, err)
	}
	return n
}

// newWith is a memory with blocks of these sizes and of one align, numbered from 1 on.
func newWith(t *testing.T, align int, sizes ...int) *Memory {
	t.Helper()
	m := New()
	for _, size := range sizes {
		mustMake(t, m, size, align)
	}
	return m
}

// mustStore stores what may be stored.
func mustStore(t *testing.T, m *Memory, p api.Val, width int, v api.Val) {
	t.Helper()
	if s := m.Store(p, width, v); s != 0 {
		t.Fatalf("Store(%v, %d, %v): stop %d", p, width, v, s)
	}
}

// mustEnd ends a block that lives.
func mustEnd(t *testing.T, m *Memory, block int) {
	t.Helper()
	if err := m.End(block); err != api.OK {
		t.Fatalf("End(%d): error %d", block, err)
	}
}

// wantCells asks for a block's cells.
func wantCells(t *testing.T, m *Memory, block int, lists ...[]api.Cell) {
	t.Helper()
	want := slices.Concat(lists...)
	if got, err := m.Cells(block); !slices.Equal(got, want) || err != api.OK {
		t.Errorf("Cells(%d) = %v, %d, want %v", block, got, err, want)
	}
}

// wantLoad asks for what is loaded.
func wantLoad(t *testing.T, m *Memory, p api.Val, width int, signed bool, want api.Val) {
	t.Helper()
	if got, s := m.Load(p, width, signed); got != want || s != 0 {
		t.Errorf("Load(%v, %d, %v) = %v, %d, want %v", p, width, signed, got, s, want)
	}
}

// wantNoLoad asks that nothing can be loaded, signed or not.
func wantNoLoad(t *testing.T, m *Memory, p api.Val, width int) {
	t.Helper()
	for _, signed := range []bool{false, true} {
		if got, s := m.Load(p, width, signed); got != (api.Val{}) || s != api.StopUndef {
			t.Errorf("Load(%v, %d, %v) = %v, %d, want StopUndef", p, width, signed, got, s)
		}
	}
}

// picture has the cells of all blocks that live among the first n numbers.
func picture(m *Memory, n int) map[int][]api.Cell {
	blocks := map[int][]api.Cell{}
	for i := range n + 1 {
		if cells, err := m.Cells(i); err == api.OK {
			blocks[i] = cells
		}
	}
	return blocks
}

// samePicture tells whether two pictures have the same blocks with the same cells.
func samePicture(a, b map[int][]api.Cell) bool {
	if len(a) != len(b) {
		return false
	}
	for i, cells := range a {
		other, ok := b[i]
		if !ok || !slices.Equal(cells, other) {
			return false
		}
	}
	return true
}

// unchanged does something that may change no byte of the memory's first blocks.
func unchanged(t *testing.T, m *Memory, do func()) {
	t.Helper()
	before := picture(m, 8)
	do()
	if after := picture(m, 8); !samePicture(before, after) {
		t.Errorf("changed: %v, want %v", after, before)
	}
}

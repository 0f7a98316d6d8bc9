package memory

import (
	"math"
	"slices"
	"testing"

	"mortise/api"
)

// TestP11_3Examples are the chapter's examples.
func TestP11_3Examples(t *testing.T) {
	m := New()
	if n, err := m.Make(8, 4); n != 1 || err != api.OK {
		t.Fatalf("Make(8, 4) = %d, %d", n, err)
	}
	wantNoLoad(t, m, ptr(1, 0), 4)
	mustStore(t, m, ptr(1, 0), 4, num(258))
	wantLoad(t, m, ptr(1, 0), 1, false, num(2))
	wantLoad(t, m, ptr(1, 1), 1, false, num(1))
	wantNoLoad(t, m, ptr(1, 2), 4)
	mustStore(t, m, ptr(1, 4), 4, ptr(1, 0))
	wantLoad(t, m, ptr(1, 4), 4, false, ptr(1, 0))
	wantNoLoad(t, m, ptr(1, 4), 1)
	if s := m.Copy(ptr(1, 0), ptr(1, 4), 4, 4); s != 0 {
		t.Errorf("Copy: stop %d", s)
	}
	wantLoad(t, m, ptr(1, 0), 4, false, ptr(1, 0))
	wantBin(t, m, api.OpAdd, ptr(1, 0), num(9), api.Val{}, api.StopUndef)
	wantBin(t, m, api.OpAdd, ptr(1, 0), num(8), ptr(1, 8), 0)
	wantBin(t, m, api.OpEq, ptr(1, 0), num(0), num(0), 0)
}

func TestP11_1Make(t *testing.T) {
	m := New()
	number := 0
	for _, size := range []int{1, 2, 3, 4, 127, 128, 129, 256, 1000, 16383, 16384} {
		for _, align := range []int{1, 2, 4} {
			number++
			if got, err := m.Make(size, align); got != number || err != api.OK {
				t.Fatalf("Make(%d, %d) = %d, %d, want %d", size, align, got, err, number)
			}
			wantCells(t, m, number, unset(size))
			wantNoLoad(t, m, ptr(number, 0), 1)
			wantNoLoad(t, m, ptr(number, uint32(size-1)), 1)
		}
	}
}

// TestP11_1MakeRefused: what is refused makes nothing, and takes no number.
func TestP11_1MakeRefused(t *testing.T) {
	m := newWith(t, 4, 8)
	sizes := []int{0, -1, -16384, 16385, 16386, 32768, 65536 + 8, 1<<32 + 8, math.MaxInt, math.MinInt, math.MinInt + 8}
	for _, size := range sizes {
		for _, align := range []int{1, 2, 4, 3} {
			if n, err := m.Make(size, align); n != 0 || err != api.ErrArg {
				t.Errorf("Make(%d, %d) = %d, %d, want ErrArg", size, align, n, err)
			}
		}
	}
	for _, align := range noWidths() {
		for _, size := range []int{1, 8, 16384, 0} {
			if n, err := m.Make(size, align); n != 0 || err != api.ErrArg {
				t.Errorf("Make(%d, %d) = %d, %d, want ErrArg", size, align, n, err)
			}
		}
	}
	if n := mustMake(t, m, 1, 1); n != 2 {
		t.Errorf("the second block is %d", n)
	}
	if got := picture(m, 10); len(got) != 2 {
		t.Errorf("blocks: %v", got)
	}
}

// TestP11_1Full: 4096 blocks may live, however many did.
func TestP11_1Full(t *testing.T) {
	m := New()
	for i := 1; i <= 4096; i++ {
		if n := mustMake(t, m, 1+i%3, 1); n != i {
			t.Fatalf("block %d is %d", i, n)
		}
		mustStore(t, m, ptr(i, 0), 1, num(uint32(i)))
	}
	full := func(size, align int, want api.Errno) {
		t.Helper()
		if n, err := m.Make(size, align); n != 0 || err != want {
			t.Errorf("Make(%d, %d) of a full memory = %d, %d, want %d", size, align, n, err, want)
		}
	}
	full(1, 1, api.ErrFull)
	full(16384, 4, api.ErrFull)
	full(0, 1, api.ErrArg)
	full(1, 3, api.ErrArg)
	for i, gone := range []int{7, 4096, 1, 4098} {
		mustEnd(t, m, gone)
		if n := mustMake(t, m, 4, 4); n != 4097+i {
			t.Errorf("behind an End the new block is %d, want %d", n, 4097+i)
		}
		full(1, 1, api.ErrFull)
	}
	for i := 2; i <= 4095; i++ {
		if i != 7 {
			wantLoad(t, m, ptr(i, 0), 1, false, num(uint32(i%256)))
		}
	}
}

// TestP11_1Large: as many blocks may live where each has as many bytes as it may.
func TestP11_1Large(t *testing.T) {
	m := New()
	for range 4096 {
		n := mustMake(t, m, 16384, 4)
		mustStore(t, m, ptr(n, 16380), 4, num(uint32(n)))
	}
	for _, n := range []int{1, 2, 4095, 4096} {
		wantCells(t, m, n, unset(16380), bytesOf(uint32(n)&255, uint32(n)>>8, 0, 0))
	}
}

// TestP11_1End: a block that was ended lives no more, its number is not given again, and the others stay.
func TestP11_1End(t *testing.T) {
	m := newWith(t, 4, 8, 8, 8)
	for i := 1; i <= 3; i++ {
		mustStore(t, m, ptr(i, 4), 4, num(uint32(i)))
	}
	mustEnd(t, m, 2)
	wantNoBlock(t, m, 2)
	for _, i := range []int{1, 3} {
		wantCells(t, m, i, unset(4), bytesOf(uint32(i), 0, 0, 0))
	}
	if n := mustMake(t, m, 8, 4); n != 4 {
		t.Errorf("the new block is %d", n)
	}
	wantNoBlock(t, m, 2)
	wantCells(t, m, 4, unset(8))
	for _, i := range []int{4, 3, 1} {
		mustEnd(t, m, i)
		wantNoBlock(t, m, i)
	}
	if n := mustMake(t, m, 8, 4); n != 5 {
		t.Errorf("the new block of a memory that has none is %d", n)
	}
	wantCells(t, m, 5, unset(8))
}

// wantNoBlock asks that there is no such block, whatever is asked of it.
func wantNoBlock(t *testing.T, m *Memory, block int) {
	t.Helper()
	if err := m.End(block); err != api.ErrArg {
		t.Errorf("End(%d) = %d, want ErrArg", block, err)
	}
	if cells, err := m.Cells(block); len(cells) != 0 || err != api.ErrArg {
		t.Errorf("Cells(%d) = %v, %d, want ErrArg", block, cells, err)
	}
	wantNothingAt(t, m, ptr(block, 0))
	wantNothingAt(t, m, ptr(block, 4))
}

// wantNothingAt asks that a value is no good pointer, whatever is asked of it.
func wantNothingAt(t *testing.T, m *Memory, p api.Val) {
	t.Helper()
	wantNoLoad(t, m, p, 1)
	wantNoLoad(t, m, p, 4)
	for what, s := range map[string]api.Stop{
		"Store":     m.Store(p, 1, num(1)),
		"Zero":      m.Zero(p, 1),
		"Copy":      m.Copy(p, p, 1, 1),
		"Copy to":   m.Copy(p, ptr(1, 0), 1, 1),
		"Copy from": m.Copy(ptr(1, 0), p, 1, 1),
	} {
		if s != api.StopUndef {
			t.Errorf("%s at %v = %d, want StopUndef", what, p, s)
		}
	}
	if yes, s := m.Truth(p); yes || s != api.StopUndef {
		t.Errorf("Truth(%v) = %v, %d, want StopUndef", p, yes, s)
	}
	for _, op := range allOps() {
		for _, other := range []api.Val{num(0), num(1), p, ptr(1, 0)} {
			wantBin(t, m, op, p, other, api.Val{}, api.StopUndef)
			wantBin(t, m, op, other, p, api.Val{}, api.StopUndef)
		}
	}
}

// TestP11_1NoBlock: numbers that were never given are no blocks.
func TestP11_1NoBlock(t *testing.T) {
	m := newWith(t, 4, 8, 8)
	unchanged(t, m, func() {
		for _, block := range []int{0, -1, -2, 3, 4, 4096, 4097, 256 + 1, 65536 + 1, 1<<32 + 1, 1<<32 + 2, math.MaxInt, math.MinInt, math.MinInt + 1} {
			wantNoBlock(t, m, block)
		}
	})
	empty := New()
	for _, block := range []int{0, 1, -1} {
		wantNoBlock(t, empty, block)
	}
}

// TestP11_1Cells: a block's bytes are told as they are, in new memory.
func TestP11_1Cells(t *testing.T) {
	m := newWith(t, 4, 12, 300)
	mustStore(t, m, ptr(1, 1), 1, num(0x1ff))
	mustStore(t, m, ptr(1, 4), 4, ptr(2, 9))
	mustStore(t, m, ptr(1, 10), 2, num(0x8001))
	want := [][]api.Cell{unset(1), bytesOf(255), unset(2), partsOf(2, 9), unset(2), bytesOf(1, 0x80)}
	wantCells(t, m, 1, want...)
	first, _ := m.Cells(1)
	second, _ := m.Cells(1)
	for i := range first {
		first[i] = api.Cell{Kind: 7, V: 7, Block: 7, Part: 7}
	}
	_ = append(second[:3], bytesOf(9, 9, 9)...)
	wantCells(t, m, 1, want...)
	second, _ = m.Cells(1)
	mustStore(t, m, ptr(1, 4), 4, num(0))
	if got := slices.Concat(want...); !slices.Equal(second, got) {
		t.Errorf("an answer was changed by a Store: %v", second)
	}
	mustStore(t, m, ptr(2, 128), 4, num(0x04030201))
	mustStore(t, m, ptr(2, 124), 4, ptr(-5, 1<<31))
	mustStore(t, m, ptr(2, 299), 1, num(6))
	wantCells(t, m, 2, unset(124), partsOf(-5, 1<<31), bytesOf(1, 2, 3, 4), unset(167), bytesOf(6))
}

// TestP11_1NotGiven: a memory that New did not give is refused everything, and so is a copy of one that it gave.
func TestP11_1NotGiven(t *testing.T) {
	given := newWith(t, 4, 8, 8)
	mustStore(t, given, ptr(1, 0), 4, num(5))
	copied := *given
	for what, m := range map[string]*Memory{"nil": nil, "zero": {}, "new": new(Memory), "copied": &copied} {
		for range 2 { // what is refused must not make it one that is taken
			wantRefused(t, what, m)
		}
	}
	wantCells(t, given, 1, bytesOf(5, 0, 0, 0), unset(4))
	wantCells(t, given, 2, unset(8))
	if n := mustMake(t, given, 1, 1); n != 3 {
		t.Errorf("the third block is %d", n)
	}
}

// wantRefused does every call of a memory that is none, with arguments that another one would take and with some that it would not.
func wantRefused(t *testing.T, what string, m *Memory) {
	t.Helper()
	for _, size := range []int{8, 0} {
		if n, err := m.Make(size, 4); n != 0 || err != api.ErrNil {
			t.Errorf("%s: Make(%d, 4) = %d, %d", what, size, n, err)
		}
	}
	for _, block := range []int{1, 0} {
		if err := m.End(block); err != api.ErrNil {
			t.Errorf("%s: End(%d) = %d", what, block, err)
		}
		if cells, err := m.Cells(block); len(cells) != 0 || err != api.ErrNil {
			t.Errorf("%s: Cells(%d) = %v, %d", what, block, cells, err)
		}
	}
	wantNothingAt(t, m, ptr(1, 0))
	wantNothingAt(t, m, ptr(0, 0))
	for _, v := range []api.Val{num(0), num(7), ptr(1, 0), {}} {
		if yes, s := m.Truth(v); yes || s != api.StopUndef {
			t.Errorf("%s: Truth(%v) = %v, %d", what, v, yes, s)
		}
	}
	for _, op := range allOps() {
		wantBin(t, m, op, num(6), num(3), api.Val{}, api.StopUndef)
		wantBin(t, m, op, num(6), num(0), api.Val{}, api.StopUndef)
	}
}

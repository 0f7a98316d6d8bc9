package memory

import (
	"math"
	"slices"
	"testing"

	"mortise/api"
)

// mark lays something else down in each byte of a block: each third one is a number, each fourth is not set, and there are parts of pointers between.
func mark(t *testing.T, m *Memory, block, size int) {
	t.Helper()
	cells := unset(size)
	for v := range cells {
		switch {
		case v%3 == 0:
			cells[v] = byteCell(uint32(v+40*block) % 256)
		case v%4 != 0:
			cells[v] = partCell(block, uint32(v), v%4)
		}
	}
	layCells(t, m, ptr(block, 0), cells)
	wantCells(t, m, block, cells)
}

// marked is a memory of blocks that are marked, numbered from 1 on.
func marked(t *testing.T, align int, size, blocks int) *Memory {
	t.Helper()
	m := newWith(t, align, slices.Repeat([]int{size}, blocks)...)
	for i := range blocks {
		mark(t, m, i+1, size)
	}
	return m
}

// TestP11_3CopyBetween: between two blocks all that is there is copied, what is not set too, and nothing else turns.
func TestP11_3CopyBetween(t *testing.T) {
	const size = 300
	for _, c := range []struct{ to, from, n, align int }{
		{0, 0, size, 4}, {0, 0, size, 1}, {0, 4, 1, 4}, {4, 0, 3, 4}, {8, 16, 7, 4}, {2, 4, 5, 2}, {3, 1, 9, 1}, {120, 0, 16, 4}, {0, 127, 2, 1},
		{126, 2, 130, 2}, {299, 0, 1, 1}, {0, 299, 1, 1}, {296, 0, 4, 4}, {100, 100, 200, 4}, {128, 0, 128, 4}, {1, 129, 128, 1},
	} {
		m := marked(t, 4, size, 2)
		one, _ := m.Cells(1)
		two, _ := m.Cells(2)
		if s := m.Copy(ptr(2, uint32(c.to)), ptr(1, uint32(c.from)), c.n, c.align); s != 0 {
			t.Errorf("Copy of %d from %d to %d by %d: stop %d", c.n, c.from, c.to, c.align, s)
		}
		wantCells(t, m, 1, one)
		wantCells(t, m, 2, two[:c.to], one[c.from:c.from+c.n], two[c.to+c.n:])
	}
}

// TestP11_3CopyWithin: within one block the bytes may touch or be in place, but must not share a byte besides.
func TestP11_3CopyWithin(t *testing.T) {
	const size = 12
	for to := range size + 1 {
		for from := range size + 1 {
			for n := 1; n <= size+1; n++ {
				m := marked(t, 4, size, 1)
				before, _ := m.Cells(1)
				s := m.Copy(ptr(1, uint32(to)), ptr(1, uint32(from)), n, 1)
				apart := to == from || to+n <= from || from+n <= to
				if to+n > size || from+n > size || !apart {
					if s != api.StopUndef {
						t.Errorf("Copy of %d from %d to %d: %d, want StopUndef", n, from, to, s)
					}
					wantCells(t, m, 1, before)
					continue
				}
				if s != 0 {
					t.Errorf("Copy of %d from %d to %d: stop %d", n, from, to, s)
				}
				want := slices.Clone(before)
				copy(want[to:], before[from:from+n])
				wantCells(t, m, 1, want)
			}
		}
	}
}

// TestP11_3CopyAlign: both places are multiples of align, and both blocks have it; n need not be a multiple.
func TestP11_3CopyAlign(t *testing.T) {
	for _, align := range []int{1, 2, 4} {
		for _, has := range [][2]int{{1, 1}, {1, 2}, {2, 1}, {2, 2}, {2, 4}, {4, 2}, {4, 4}, {1, 4}, {4, 1}} {
			for to := range 6 {
				for from := range 6 {
					m := New()
					mustMake(t, m, 8, has[0])
					mustMake(t, m, 8, has[1])
					want := api.Stop(0)
					if has[0] < align || has[1] < align || to%align != 0 || from%align != 0 {
						want = api.StopUndef
					}
					if s := m.Copy(ptr(1, uint32(to)), ptr(2, uint32(from)), 3, align); s != want {
						t.Errorf("Copy from %d to %d by %d of blocks with aligns %v: %d, want %d", from, to, align, has, s, want)
					}
				}
			}
		}
	}
}

// TestP11_3CopyRefused: counts that are none, and such that run over the end of either block.
func TestP11_3CopyRefused(t *testing.T) {
	m := newWith(t, 4, 8, 16)
	mark(t, m, 1, 8)
	for _, c := range []struct {
		to, from api.Val
		n        int
	}{
		{ptr(2, 0), ptr(1, 0), 0}, {ptr(2, 0), ptr(1, 0), -1}, {ptr(2, 0), ptr(1, 0), -8}, {ptr(2, 0), ptr(1, 0), math.MinInt}, {ptr(1, 0), ptr(1, 0), 0}, {ptr(1, 0), ptr(1, 0), -4},
		{ptr(2, 0), ptr(1, 0), 9}, {ptr(1, 0), ptr(2, 0), 9}, {ptr(2, 0), ptr(1, 4), 5}, {ptr(1, 4), ptr(2, 0), 5}, {ptr(2, 0), ptr(1, 8), 1}, {ptr(1, 8), ptr(2, 0), 1},
		{ptr(2, 4), ptr(2, 4), 13}, {ptr(1, 8), ptr(1, 8), 1}, {ptr(2, 0), ptr(1, 12), 1}, {ptr(2, 0), ptr(1, 1<<32-4), 4}, {ptr(1, 1<<32-4), ptr(2, 0), 8},
		{ptr(2, 0), ptr(1, 0), math.MaxInt}, {ptr(2, 8), ptr(1, 4), math.MaxInt}, {ptr(2, 8), ptr(1, 4), math.MaxInt - 3}, {ptr(2, 16), ptr(1, 8), math.MaxInt - 7},
		{ptr(2, 0), ptr(1, 0), 1 << 32}, {ptr(2, 0), ptr(1, 0), 1<<32 + 4}, {ptr(1, 4), ptr(1, 4), math.MaxInt}, {ptr(2, 0), ptr(1, 0), 16384},
	} {
		for _, align := range []int{1, 2, 4} {
			unchanged(t, m, func() {
				if s := m.Copy(c.to, c.from, c.n, align); s != api.StopUndef {
					t.Errorf("Copy(%v, %v, %d, %d) = %d", c.to, c.from, c.n, align, s)
				}
			})
		}
	}
}

func TestP11_3Zero(t *testing.T) {
	const size = 300
	for _, c := range []struct{ v, n int }{{0, 1}, {0, size}, {1, 1}, {3, 5}, {120, 16}, {127, 1}, {128, 1}, {127, 2}, {299, 1}, {100, 200}} {
		for _, align := range []int{1, 2, 4} {
			m := marked(t, align, size, 2)
			one, _ := m.Cells(1)
			two, _ := m.Cells(2)
			if s := m.Zero(ptr(2, uint32(c.v)), c.n); s != 0 {
				t.Errorf("Zero of %d at %d: stop %d", c.n, c.v, s)
			}
			wantCells(t, m, 1, one)
			wantCells(t, m, 2, two[:c.v], bytesOf(make([]uint32, c.n)...), two[c.v+c.n:])
		}
	}
	m := newWith(t, 1, 16384)
	if s := m.Zero(ptr(1, 0), 16384); s != 0 {
		t.Errorf("Zero of a whole block: stop %d", s)
	}
	wantCells(t, m, 1, bytesOf(make([]uint32, 16384)...))
}

func TestP11_3ZeroRefused(t *testing.T) {
	m := marked(t, 4, 8, 1)
	for _, c := range []struct {
		v uint32
		n int
	}{
		{0, 0}, {8, 0}, {0, -1}, {4, -4}, {0, math.MinInt}, {0, 9}, {1, 8}, {7, 2}, {8, 1}, {9, 1}, {0, math.MaxInt}, {1, math.MaxInt}, {8, math.MaxInt},
		{4, math.MaxInt - 3}, {0, 1 << 32}, {0, 1<<32 + 1}, {1<<32 - 1, 1}, {1<<32 - 1, 2}, {1 << 31, 1},
	} {
		unchanged(t, m, func() {
			if s := m.Zero(ptr(1, c.v), c.n); s != api.StopUndef {
				t.Errorf("Zero(%v, %d) = %d", ptr(1, c.v), c.n, s)
			}
		})
	}
}

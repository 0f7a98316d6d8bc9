package memory

import (
	"math"
	"testing"

	"mortise/api"
)

// TestP11_2Good: a pointer is good up to its block's end, and no further; Truth tells.
func TestP11_2Good(t *testing.T) {
	for _, size := range []int{1, 2, 8, 127, 128, 129, 16384} {
		m := newWith(t, 1, size, 8)
		for _, v := range []int{0, 1, size - 1, size} {
			if v > size {
				continue
			}
			if yes, s := m.Truth(ptr(1, uint32(v))); !yes || s != 0 {
				t.Errorf("block of %d: Truth(%v) = %v, %d", size, ptr(1, uint32(v)), yes, s)
			}
		}
		for _, v := range []uint32{uint32(size) + 1, uint32(size) + 2, 16385, 65536, 1 << 31, 1<<31 + 1, 1<<32 - 1, 1<<32 - 16384} {
			wantNothingAt(t, m, ptr(1, v))
		}
	}
}

// TestP11_2NoPointer: only a Val of Kind ValPtr is a pointer, whatever else it says.
func TestP11_2NoPointer(t *testing.T) {
	m := newWith(t, 4, 8)
	if s := m.Zero(ptr(1, 0), 8); s != 0 {
		t.Fatal(s)
	}
	unchanged(t, m, func() {
		for _, k := range append(noKinds(), api.ValNum) {
			p := api.Val{Kind: k, Block: 1}
			wantNoLoad(t, m, p, 1)
			wantNoLoad(t, m, p, 4)
			for _, s := range []api.Stop{
				m.Store(p, 1, num(7)), m.Zero(p, 1), m.Copy(p, ptr(1, 4), 1, 1), m.Copy(ptr(1, 4), p, 1, 1), m.Copy(p, p, 1, 1),
			} {
				if s != api.StopUndef {
					t.Errorf("a Val of kind %d is taken for a pointer: %d", k, s)
				}
			}
		}
	})
}

// TestP11_2BytesAt goes through all widths at all places of blocks of each align, and asks for what the chapter says.
func TestP11_2BytesAt(t *testing.T) {
	for _, align := range []int{1, 2, 4} {
		for size := 1; size <= 10; size++ {
			for v := range size + 3 {
				for _, width := range []int{1, 2, 4} {
					there := v+width <= size && v%width == 0 && align >= width
					tryWidth(t, size, align, uint32(v), width, there)
				}
			}
		}
		tryWidth(t, 16384, align, 16384-uint32(align), align, true)
		tryWidth(t, 16384, align, 16384, 1, false)
		tryWidth(t, 16384, align, -uint32(align), align, false) // the sum is 0, if taken round
	}
}

// tryWidth does all that a width has at one place, and asks whether it is taken.
func tryWidth(t *testing.T, size, align int, v uint32, width int, there bool) {
	t.Helper()
	m := newWith(t, align, size, size)
	m.Zero(ptr(1, 0), size)
	m.Zero(ptr(2, 0), size)
	_, load := m.Load(ptr(1, v), width, false)
	copied := m.Copy(ptr(1, v), ptr(1, v), width, width)
	other := m.Copy(ptr(2, v), ptr(1, v), width, width)
	stored := m.Store(ptr(1, v), width, num(0x04030201))
	zeroed := m.Zero(ptr(2, v), width)
	want := api.Stop(0)
	if !there {
		want = api.StopUndef
	}
	if load != want || stored != want || copied != want || other != want {
		t.Errorf("%d bytes at %d of a block of %d, align %d: Load %d, Store %d, Copy %d and %d, want %d", width, v, size, align, load, stored, copied, other, want)
	}
	want = 0
	if int64(v)+int64(width) > int64(size) {
		want = api.StopUndef
	}
	if zeroed != want {
		t.Errorf("Zero of %d bytes at %d of a block of %d, align %d: %d, want %d", width, v, size, align, zeroed, want)
	}
}

// TestP11_2NoWidth: other widths than 1, 2 and 4 are undefined everywhere.
func TestP11_2NoWidth(t *testing.T) {
	m := newWith(t, 4, 16, 16)
	m.Zero(ptr(1, 0), 16)
	unchanged(t, m, func() {
		for _, w := range noWidths() {
			for _, v := range []uint32{0, 8} {
				wantNoLoad(t, m, ptr(1, v), w)
				for _, x := range []api.Val{num(7), ptr(1, 0), {}} {
					if s := m.Store(ptr(1, v), w, x); s != api.StopUndef {
						t.Errorf("Store(.., %d, %v) = %d", w, x, s)
					}
				}
				for _, n := range []int{1, 4, 8} {
					if s := m.Copy(ptr(2, v), ptr(1, v), n, w); s != api.StopUndef {
						t.Errorf("Copy(.., .., %d, %d) = %d", n, w, s)
					}
				}
			}
		}
	})
}

func TestP11_3LoadNumbers(t *testing.T) {
	m := newWith(t, 4, 8)
	mustStore(t, m, ptr(1, 0), 4, num(0x807f01ff))
	mustStore(t, m, ptr(1, 4), 4, num(0x7fff8000))
	for _, c := range []struct {
		v      uint32
		width  int
		signed bool
		want   uint32
	}{
		{0, 1, false, 0xff}, {0, 1, true, 0xffffffff}, {1, 1, false, 1}, {1, 1, true, 1}, {2, 1, true, 0x7f}, {3, 1, false, 0x80}, {3, 1, true, 0xffffff80},
		{0, 2, false, 0x1ff}, {0, 2, true, 0x1ff}, {2, 2, false, 0x807f}, {2, 2, true, 0xffff807f}, {4, 2, true, 0xffff8000}, {6, 2, true, 0x7fff},
		{0, 4, false, 0x807f01ff}, {0, 4, true, 0x807f01ff}, {4, 4, false, 0x7fff8000}, {4, 4, true, 0x7fff8000},
	} {
		wantLoad(t, m, ptr(1, c.v), c.width, c.signed, num(c.want))
	}
}

// TestP11_3LoadUnset: one byte that is not set is enough.
func TestP11_3LoadUnset(t *testing.T) {
	for missing := range 4 {
		m := newWith(t, 4, 8)
		for i := range 4 {
			if i != missing {
				mustStore(t, m, ptr(1, uint32(i)), 1, num(uint32(i+1)))
			}
		}
		wantNoLoad(t, m, ptr(1, 0), 4)
		half := uint32(missing / 2 * 2)
		wantNoLoad(t, m, ptr(1, half), 2)
		wantNoLoad(t, m, ptr(1, uint32(missing)), 1)
		other := 2 - half
		wantLoad(t, m, ptr(1, other), 2, false, num(other+1|(other+2)<<8))
		mustStore(t, m, ptr(1, uint32(missing)), 1, num(uint32(missing+1)))
		wantLoad(t, m, ptr(1, 0), 4, false, num(0x04030201))
	}
}

// layCells lays cells down by copies: bytes and parts from where they were stored.
func layCells(t *testing.T, m *Memory, to api.Val, cells []api.Cell) {
	t.Helper()
	from := mustMake(t, m, 4, 4)
	for i, c := range cells {
		source := ptr(from, 0)
		switch c.Kind {
		case api.ValNum:
			mustStore(t, m, source, 1, num(c.V))
		case api.ValPtr:
			mustStore(t, m, source, 4, ptr(c.Block, c.V))
			source.V = uint32(c.Part)
		default:
			source.V = 3
			mustEnd(t, m, from)
			from = mustMake(t, m, 4, 4)
			source.Block = from
		}
		target := to
		target.V += uint32(i)
		if s := m.Copy(target, source, 1, 1); s != 0 {
			t.Fatalf("Copy of one byte to %v: stop %d", target, s)
		}
	}
	mustEnd(t, m, from)
}

// TestP11_3LoadParts: a pointer is loaded where all of its own parts stand, and in their order; all else that parts make is undefined.
func TestP11_3LoadParts(t *testing.T) {
	p, q := partsOf(1, 4), partsOf(2, 4)
	r := partsOf(1, 0)
	n := byteCell(1)
	mixed := [][]api.Cell{
		{p[0], p[1], p[2], n}, {n, p[1], p[2], p[3]}, {p[0], n, p[2], p[3]}, {n, n, n, p[3]}, {p[0], n, n, n}, {n, n, p[2], n},
		{p[0], p[1], p[2], {}}, {{}, p[1], p[2], p[3]}, {p[0], {}, p[2], p[3]},
		{p[1], p[0], p[2], p[3]}, {p[0], p[1], p[3], p[2]}, {p[3], p[2], p[1], p[0]}, {p[1], p[2], p[3], p[0]}, {p[3], p[0], p[1], p[2]},
		{p[0], p[0], p[0], p[0]}, {p[1], p[1], p[1], p[1]}, {p[0], p[1], p[2], p[2]}, {p[1], p[1], p[2], p[3]},
		{p[0], p[1], p[2], q[3]}, {q[0], p[1], p[2], p[3]}, {p[0], p[1], q[2], q[3]}, {p[0], q[1], p[2], p[3]},
		{p[0], p[1], p[2], r[3]}, {r[0], p[1], p[2], p[3]}, {p[0], r[1], p[2], p[3]}, {r[0], r[1], p[2], p[3]},
	}
	for _, cells := range mixed {
		m := newWith(t, 4, 8, 8)
		layCells(t, m, ptr(2, 4), cells)
		wantCells(t, m, 2, unset(4), cells)
		unchanged(t, m, func() { wantNoLoad(t, m, ptr(2, 4), 4) })
	}
	m := newWith(t, 4, 8, 8)
	layCells(t, m, ptr(2, 4), p)
	wantLoad(t, m, ptr(2, 4), 4, false, ptr(1, 4))
	wantLoad(t, m, ptr(2, 4), 4, true, ptr(1, 4))
	for v := uint32(4); v < 8; v++ {
		wantNoLoad(t, m, ptr(2, v), 1)
		wantNoLoad(t, m, ptr(2, v), 2)
	}
	layCells(t, m, ptr(2, 5), p[1:2]) // the same part once more, of a pointer that was stored anew
	wantLoad(t, m, ptr(2, 4), 4, false, ptr(1, 4))
}

// TestP11_3LoadPartsOffPlace: the parts of one pointer that do not stand at a multiple of 4 are no pointer there, until they are copied to one.
func TestP11_3LoadPartsOffPlace(t *testing.T) {
	m := newWith(t, 4, 12, 8)
	mustStore(t, m, ptr(1, 4), 4, ptr(2, 8))
	if s := m.Copy(ptr(2, 2), ptr(1, 4), 4, 2); s != 0 {
		t.Fatalf("Copy: stop %d", s)
	}
	wantCells(t, m, 2, unset(2), partsOf(2, 8), unset(2))
	for v := range uint32(8) {
		wantNoLoad(t, m, ptr(2, v), 4)
		wantNoLoad(t, m, ptr(2, v), 2)
		wantNoLoad(t, m, ptr(2, v), 1)
	}
	if s := m.Copy(ptr(1, 8), ptr(2, 2), 4, 1); s != 0 {
		t.Fatalf("Copy: stop %d", s)
	}
	wantLoad(t, m, ptr(1, 8), 4, false, ptr(2, 8))
}

// TestP11_3AnyPointer: a pointer is stored and loaded whatever it points to, also where that lives no more.
func TestP11_3AnyPointer(t *testing.T) {
	m := newWith(t, 4, 8, 8)
	for _, p := range []api.Val{
		ptr(1, 0), ptr(1, 8), ptr(1, 9), ptr(2, 1<<32-1), ptr(3, 0), ptr(0, 0), ptr(0, 1), ptr(-1, 5), ptr(math.MaxInt, 1<<31), ptr(math.MinInt, 7), ptr(1<<32+1, 3),
	} {
		mustStore(t, m, ptr(1, 4), 4, p)
		wantCells(t, m, 1, unset(4), partsOf(p.Block, p.V))
		wantLoad(t, m, ptr(1, 4), 4, false, p)
	}
	mustStore(t, m, ptr(1, 4), 4, ptr(2, 3))
	mustEnd(t, m, 2)
	wantLoad(t, m, ptr(1, 4), 4, false, ptr(2, 3))
	wantNothingAt(t, m, ptr(2, 3))
	mustMake(t, m, 8, 4)
	wantLoad(t, m, ptr(1, 4), 4, false, ptr(2, 3))
	wantNothingAt(t, m, ptr(2, 3))
}

func TestP11_3Store(t *testing.T) {
	for _, c := range []struct {
		v     uint32
		width int
		x     uint32
		want  []api.Cell
	}{
		{0, 1, 0x12345678, bytesOf(0x78)}, {3, 1, 0xffffffff, bytesOf(0xff)}, {7, 1, 0x100, bytesOf(0)},
		{0, 2, 0x12345678, bytesOf(0x78, 0x56)}, {6, 2, 0xffff8000, bytesOf(0, 0x80)},
		{0, 4, 0x12345678, bytesOf(0x78, 0x56, 0x34, 0x12)}, {4, 4, 1, bytesOf(1, 0, 0, 0)},
	} {
		for _, block := range []int{0, 1, -9} { // of a number the Block says nothing
			m := newWith(t, 4, 8)
			mustStore(t, m, ptr(1, c.v), c.width, api.Val{Kind: api.ValNum, V: c.x, Block: block})
			wantCells(t, m, 1, unset(int(c.v)), c.want, unset(8-int(c.v)-c.width))
		}
	}
}

// TestP11_3StoreRefused: pointers have 4 bytes, and other values than numbers and pointers none.
func TestP11_3StoreRefused(t *testing.T) {
	m := newWith(t, 4, 8)
	mustStore(t, m, ptr(1, 0), 4, num(0xabcdef))
	unchanged(t, m, func() {
		for _, width := range []int{1, 2} {
			for _, p := range []api.Val{ptr(1, 0), ptr(0, 0), ptr(9, 9)} {
				if s := m.Store(ptr(1, 0), width, p); s != api.StopUndef {
					t.Errorf("Store(.., %d, %v) = %d", width, p, s)
				}
			}
		}
		for _, k := range noKinds() {
			for _, width := range []int{1, 2, 4} {
				v := api.Val{Kind: k, V: 3, Block: 1}
				if s := m.Store(ptr(1, 0), width, v); s != api.StopUndef {
					t.Errorf("Store(.., %d, %v) = %d", width, v, s)
				}
			}
		}
	})
}

// TestP11_3StoreOverParts: a byte put among a pointer's parts leaves the others what they were.
func TestP11_3StoreOverParts(t *testing.T) {
	m := newWith(t, 4, 8)
	mustStore(t, m, ptr(1, 0), 4, ptr(1, 8))
	mustStore(t, m, ptr(1, 2), 1, num(7))
	p := partsOf(1, 8)
	wantCells(t, m, 1, p[:2], bytesOf(7), p[3:], unset(4))
	wantNoLoad(t, m, ptr(1, 0), 4)
	wantNoLoad(t, m, ptr(1, 2), 2)
	wantLoad(t, m, ptr(1, 2), 1, false, num(7))
	mustStore(t, m, ptr(1, 0), 2, num(0x0605))
	mustStore(t, m, ptr(1, 3), 1, num(8))
	wantLoad(t, m, ptr(1, 0), 4, false, num(0x08070605))
}

package memory

import (
	"maps"
	"math"
	"math/rand"
	"slices"
	"testing"

	"mortise/api"
)

// player does the same calls to a memory and to a slow one.
type player struct {
	*rand.Rand
	m *Memory
	s *slow
}

// one is one of some numbers.
func one[T any](p *player, list ...T) T { return list[p.Intn(len(list))] }

// block is mostly the number of a block that lives.
func (p *player) block() int {
	if p.Intn(40) == 0 {
		return one(p, 0, -1, p.s.made+1, p.s.made+1<<32, math.MaxInt, math.MinInt)
	}
	live := slices.Sorted(maps.Keys(p.s.sizes))
	if len(live) == 0 || p.Intn(12) == 0 {
		return 1 + p.Intn(p.s.made+1)
	}
	return one(p, live...)
}

// pointer is mostly good, and mostly a multiple of 4.
func (p *player) pointer() api.Val {
	b := p.block()
	v := uint32(p.Intn(min(p.s.sizes[b]+2, one(p, 8, 16, 999))))
	if p.Intn(3) > 0 {
		v &^= 3
	}
	if p.Intn(60) == 0 {
		v = one(p, uint32(1<<31), 1<<32-1, 1<<32-4, 16384, 1<<16)
	}
	return ptr(b, v)
}

// value is a number, a pointer, or at times nothing.
func (p *player) value() api.Val {
	switch p.Intn(12) {
	case 0:
		return api.Val{Kind: one(p, noKinds()...), V: uint32(p.Intn(9)), Block: p.block()}
	case 1, 2, 3, 4:
		return p.pointer()
	case 5:
		return num(p.Uint32())
	case 6:
		return num(0)
	}
	return num(uint32(p.Intn(41) - 20))
}

// width is mostly a width.
func (p *player) width() int {
	if p.Intn(30) == 0 {
		return one(p, noWidths()...)
	}
	return one(p, 1, 2, 4, 4)
}

// count is mostly a number of bytes that may be there.
func (p *player) count() int {
	if p.Intn(30) == 0 {
		return one(p, 0, -1, math.MinInt, math.MaxInt, math.MaxInt-1, 1<<32+1, 16384)
	}
	return 1 + p.Intn(one(p, 4, 4, 8, 140))
}

// makeOrEnd keeps some five blocks alive.
func (p *player) makeOrEnd() (any, any) {
	if live := len(p.s.sizes); live > 0 && p.Intn(8) < live {
		b := p.block()
		return p.m.End(b), p.s.end(b)
	}
	size := one(p, 0, 1, 2, 3, 4, 5, 8, 8, 12, 16, 24, 127, 128, 129, 260)
	align := one(p, 1, 2, 4, 4, 4, 4, 3, 8)
	n, err := p.m.Make(size, align)
	want, wrong := p.s.makeBlock(size, align)
	return []any{n, err}, []any{want, wrong}
}

// step does one call to both, and answers what each says.
func (p *player) step() (any, any) {
	a, b, w, n := p.pointer(), p.value(), p.width(), p.count()
	switch p.Intn(16) {
	case 0:
		return p.makeOrEnd()
	case 1, 2, 3:
		signed := p.Intn(2) == 0
		v, s := p.m.Load(a, w, signed)
		x, stop := p.s.load(a, w, signed)
		return []any{v, s}, []any{x, stop}
	case 4, 5, 6, 7:
		return p.m.Store(a, w, b), p.s.store(a, w, b)
	case 8, 9, 10:
		to := p.pointer()
		return p.m.Copy(to, a, n, w), p.s.copyBytes(to, a, n, w)
	case 11:
		return p.m.Zero(a, n), p.s.zero(a, n)
	case 12:
		yes, s := p.m.Truth(b)
		want, stop := p.s.truth(b)
		return []any{yes, s}, []any{want, stop}
	}
	op := one(p, allOps()...)
	if p.Intn(2) == 0 {
		op = one(p, api.OpAdd, api.OpSub, api.OpEq, api.OpNe, api.OpLtU, 0, 20)
	}
	left := one(p, a, p.value())
	v, s := p.m.Bin(op, left, b)
	x, stop := p.s.bin(op, left, b)
	return []any{v, s}, []any{x, stop}
}

// same tells whether two answers are the same.
func same(a, b any) bool {
	l, many := a.([]any)
	if !many {
		return a == b
	}
	return slices.Equal(l, b.([]any))
}

// differs tells of a block that has other cells, or lives where the other does not; 0, if there is none.
func (p *player) differs() int {
	for b := max(1, p.s.made-60); b <= p.s.made+1; b++ {
		got, err := p.m.Cells(b)
		want, wrong := p.s.all(b)
		if err != wrong || !slices.Equal(got, want) {
			return b
		}
	}
	return 0
}

// TestP11_3Any plays long games of all calls, and asks behind each of them for its answer and for all cells.
func TestP11_3Any(t *testing.T) {
	for seed := range int64(60) {
		p := &player{rand.New(rand.NewSource(seed)), New(), newSlow()}
		for i := range 1500 {
			got, want := p.step()
			if !same(got, want) {
				t.Fatalf("game %d, step %d: %v, want %v", seed, i, got, want)
			}
			if b := p.differs(); b != 0 {
				got, _ := p.m.Cells(b)
				want, _ := p.s.all(b)
				t.Fatalf("game %d, step %d: block %d is %v, want %v", seed, i, b, got, want)
			}
		}
	}
}

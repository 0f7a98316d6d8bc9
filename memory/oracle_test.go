package memory

import (
	"slices"

	"mortise/api"
	"mortise/word"
)

// spot is one byte of all memory.
type spot struct{ block, place int }

// slow is a memory as the chapter tells it, in which each byte of all blocks that live stands by itself.
type slow struct {
	made   int
	sizes  map[int]int
	aligns map[int]int
	cells  map[spot]api.Cell
}

func newSlow() *slow {
	return &slow{sizes: map[int]int{}, aligns: map[int]int{}, cells: map[spot]api.Cell{}}
}

func (s *slow) makeBlock(size, align int) (int, api.Errno) {
	if size <= 0 || size >= 16385 || !slices.Contains([]int{1, 2, 4}, align) {
		return 0, api.ErrArg
	}
	if len(s.sizes) >= 4096 {
		return 0, api.ErrFull
	}
	s.made++
	s.sizes[s.made], s.aligns[s.made] = size, align
	for i := range size {
		s.cells[spot{s.made, i}] = api.Cell{}
	}
	return s.made, api.OK
}

func (s *slow) end(block int) api.Errno {
	size, ok := s.sizes[block]
	if !ok {
		return api.ErrArg
	}
	for i := range size {
		delete(s.cells, spot{block, i})
	}
	delete(s.sizes, block)
	delete(s.aligns, block)
	return api.OK
}

func (s *slow) all(block int) ([]api.Cell, api.Errno) {
	size, ok := s.sizes[block]
	if !ok {
		return nil, api.ErrArg
	}
	var l []api.Cell
	for i := range size {
		l = append(l, s.cells[spot{block, i}])
	}
	return l, api.OK
}

func (s *slow) good(p api.Val) bool {
	size, ok := s.sizes[p.Block]
	return p.Kind == api.ValPtr && ok && int64(p.V) <= int64(size)
}

// there are the n bytes at p by w, or none; byte by byte, since any n may be asked for.
func (s *slow) there(p api.Val, n, w int) []spot {
	if !s.good(p) || !slices.Contains([]int{1, 2, 4}, w) || s.aligns[p.Block] < w || p.V%uint32(w) > 0 {
		return nil
	}
	var l []spot
	for i := 0; i < n; i++ {
		at := spot{p.Block, int(p.V) + i}
		if _, ok := s.cells[at]; !ok {
			return nil
		}
		l = append(l, at)
	}
	return l
}

func (s *slow) load(p api.Val, width int, signed bool) (api.Val, api.Stop) {
	l := s.there(p, width, width)
	if len(l) == 0 {
		return api.Val{}, api.StopUndef
	}
	first := s.cells[l[0]]
	numbers, pointer := 0, 0
	sum, weight := int64(0), int64(1)
	for i, at := range l {
		c := s.cells[at]
		if c.Kind == api.ValNum {
			numbers++
		}
		if c.Kind == api.ValPtr && c.V == first.V && c.Block == first.Block && c.Part == i {
			pointer++
		}
		sum += int64(c.V) * weight
		weight *= 256
	}
	if signed && sum >= weight/2 {
		sum -= weight
	}
	if numbers == len(l) {
		return num(uint32(sum)), 0
	}
	if pointer == 4 {
		return ptr(first.Block, first.V), 0
	}
	return api.Val{}, api.StopUndef
}

func (s *slow) store(p api.Val, width int, v api.Val) api.Stop {
	l := s.there(p, width, width)
	pointer := v.Kind == api.ValPtr
	if len(l) == 0 || v.Kind != api.ValNum && !pointer || pointer && width < 4 {
		return api.StopUndef
	}
	for i, at := range l {
		if pointer {
			s.cells[at] = partCell(v.Block, v.V, i)
		} else {
			s.cells[at] = byteCell(v.V >> (8 * i) & 255)
		}
	}
	return 0
}

func (s *slow) copyBytes(to, from api.Val, n, align int) api.Stop {
	target, source := s.there(to, n, align), s.there(from, n, align)
	if len(target) == 0 || len(source) == 0 {
		return api.StopUndef
	}
	shared := slices.ContainsFunc(target, func(at spot) bool { return slices.Contains(source, at) })
	if shared && target[0] != source[0] {
		return api.StopUndef
	}
	for i, at := range target {
		s.cells[at] = s.cells[source[i]]
	}
	return 0
}

func (s *slow) zero(p api.Val, n int) api.Stop {
	l := s.there(p, n, 1)
	for _, at := range l {
		s.cells[at] = byteCell(0)
	}
	if len(l) == 0 {
		return api.StopUndef
	}
	return 0
}

// bin tells P11.4 by what stands on both sides.
func (s *slow) bin(op api.BinOp, a, b api.Val) (api.Val, api.Stop) {
	sides := ""
	for _, v := range []api.Val{a, b} {
		if v.Kind == api.ValNum {
			sides += "n"
		} else if s.good(v) {
			sides += "p"
		}
	}
	if !slices.Contains(allOps(), op) {
		sides = ""
	}
	switch sides {
	case "nn":
		if v, ok := word.Bin(op, a.V, b.V); ok {
			return num(v), 0
		}
		return api.Val{}, api.StopZero
	case "pn":
		return s.mixed(op, a, b.V)
	case "np":
		if op != api.OpSub {
			return s.mixed(op, b, a.V)
		}
	case "pp":
		return s.pair(op, a, b)
	}
	return api.Val{}, api.StopUndef
}

func (s *slow) mixed(op api.BinOp, p api.Val, n uint32) (api.Val, api.Stop) {
	by := int64(int32(n))
	if op == api.OpSub {
		by = -by
	}
	sum := int64(p.V) + by
	switch {
	case op <= api.OpSub && sum >= 0 && sum <= int64(s.sizes[p.Block]):
		return ptr(p.Block, uint32(sum)), 0
	case op == api.OpEq && n == 0:
		return num(0), 0
	case op == api.OpNe && n == 0:
		return num(1), 0
	}
	return api.Val{}, api.StopUndef
}

func (s *slow) pair(op api.BinOp, a, b api.Val) (api.Val, api.Stop) {
	if a.Block != b.Block {
		ends := int(a.V) == s.sizes[a.Block] || int(b.V) == s.sizes[b.Block]
		if !ends && (op == api.OpEq || op == api.OpNe) {
			return num(uint32(op - api.OpEq)), 0
		}
		return api.Val{}, api.StopUndef
	}
	behind := int64(a.V) - int64(b.V)
	answers := map[api.BinOp]bool{
		api.OpEq: behind == 0, api.OpNe: behind != 0,
		api.OpLtS: behind < 0, api.OpLtU: behind < 0, api.OpLeS: behind <= 0, api.OpLeU: behind <= 0,
	}
	if op == api.OpSub {
		return num(uint32(behind)), 0
	}
	yes, ok := answers[op]
	if !ok {
		return api.Val{}, api.StopUndef
	}
	if yes {
		return num(1), 0
	}
	return num(0), 0
}

func (s *slow) truth(v api.Val) (bool, api.Stop) {
	if v.Kind == api.ValNum {
		return v.V > 0, 0
	}
	if s.good(v) {
		return true, 0
	}
	return false, api.StopUndef
}

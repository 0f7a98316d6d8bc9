package memory

import (
	"mortise/api"
	"mortise/word"
)

// pointerWidth is how many bytes, and so how many parts, a pointer has.
const pointerWidth = 4

// Load reads a number or a pointer (P11.3).
func (m *Memory) Load(p api.Val, width int, signed bool) (api.Val, api.Stop) {
	b := m.room(p, width, width)
	if b == nil {
		return undefined()
	}
	first := int(p.V)
	v, ok := b.number(first, width, signed)
	if !ok && width == pointerWidth {
		v, ok = b.pointer(first)
	}
	if !ok {
		return undefined()
	}
	return v, 0
}

// number is the number that so many bytes are, if all of them are bytes.
func (b *block) number(first, width int, signed bool) (api.Val, bool) {
	bytes := make([]byte, 0, width)
	for i := range width {
		c := b.at(first + i)
		if c.Kind != api.ValNum {
			return api.Val{}, false
		}
		bytes = append(bytes, byte(c.V))
	}
	v, err := word.Value(bytes, signed)
	return numberOf(v), err == api.OK
}

// pointer is the pointer whose parts are there, if all of one are, in their order.
func (b *block) pointer(first int) (api.Val, bool) {
	c := b.at(first)
	v := api.Val{Kind: api.ValPtr, V: c.V, Block: c.Block}
	for i := range pointerWidth {
		if b.at(first+i) != partOf(v, i) {
			return api.Val{}, false
		}
	}
	return v, true
}

// Store writes a number or a pointer (P11.3).
func (m *Memory) Store(p api.Val, width int, v api.Val) api.Stop {
	b := m.room(p, width, width)
	if b == nil || !stores(v, width) {
		return api.StopUndef
	}
	for i, c := range cellsOf(v, width) {
		b.put(int(p.V)+i, c)
	}
	return 0
}

// stores tells whether a value may be stored in so many bytes.
func stores(v api.Val, width int) bool {
	return v.Kind == api.ValNum || v.Kind == api.ValPtr && width == pointerWidth
}

// cellsOf are the cells that a value becomes when it is stored.
func cellsOf(v api.Val, width int) []api.Cell {
	cells := make([]api.Cell, 0, width)
	if v.Kind == api.ValPtr {
		for i := range width {
			cells = append(cells, partOf(v, i))
		}
		return cells
	}
	for _, x := range word.Bytes(v.V, width) {
		cells = append(cells, byteOf(x))
	}
	return cells
}

// partOf is byte number i of a pointer.
func partOf(v api.Val, i int) api.Cell {
	return api.Cell{Kind: api.ValPtr, V: v.V, Block: v.Block, Part: i}
}

// byteOf is a byte as a cell.
func byteOf(x byte) api.Cell { return api.Cell{Kind: api.ValNum, V: uint32(x)} }

// Copy copies bytes (P11.3).
func (m *Memory) Copy(to api.Val, from api.Val, n int, align int) api.Stop {
	target, source := m.room(to, n, align), m.room(from, n, align)
	if target == nil || source == nil || clash(to, from, n) {
		return api.StopUndef
	}
	for i := range n {
		target.put(int(to.V)+i, source.at(int(from.V)+i))
	}
	return 0
}

// clash tells whether n bytes at one pointer and at the other share some, but not all of them in place.
func clash(to, from api.Val, n int) bool {
	if to.Block != from.Block || to.V == from.V {
		return false
	}
	return int(max(to.V, from.V)-min(to.V, from.V)) < n
}

// Zero sets bytes to 0 (P11.3).
func (m *Memory) Zero(p api.Val, n int) api.Stop {
	b := m.room(p, n, 1)
	if b == nil {
		return api.StopUndef
	}
	for i := range n {
		b.put(int(p.V)+i, byteOf(0))
	}
	return 0
}

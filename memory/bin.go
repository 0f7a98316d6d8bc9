package memory

import (
	"mortise/api"
	"mortise/word"
)

// Bin does an operation (P11.4).
func (m *Memory) Bin(op api.BinOp, a api.Val, b api.Val) (api.Val, api.Stop) {
	if op < api.OpAdd || op > api.OpLeU || !m.usable(a) || !m.usable(b) {
		return undefined()
	}
	switch {
	case a.Kind == api.ValNum && b.Kind == api.ValNum:
		return ofNumbers(op, a.V, b.V)
	case a.Kind == api.ValPtr && b.Kind == api.ValPtr:
		return m.ofPointers(op, a, b)
	case a.Kind == api.ValPtr:
		return m.ofPointer(op, a, b.V)
	case op == api.OpSub: // all else that a pointer and a number have may stand either way round
		return undefined()
	}
	return m.ofPointer(op, b, a.V)
}

// Truth tells whether a value is not 0 (P11.4).
func (m *Memory) Truth(v api.Val) (bool, api.Stop) {
	if !m.usable(v) {
		return false, api.StopUndef
	}
	return v.Kind == api.ValPtr || v.V != 0, 0
}

// usable tells whether something may be done with a value: it is a number or a good pointer, of a memory that New gave.
func (m *Memory) usable(v api.Val) bool {
	return m.given() && (v.Kind == api.ValNum || m.good(v) != nil)
}

// ofNumbers does an operation with two numbers.
func ofNumbers(op api.BinOp, a, b uint32) (api.Val, api.Stop) {
	v, ok := word.Bin(op, a, b)
	if !ok {
		return api.Val{}, api.StopZero
	}
	return numberOf(v), 0
}

// ofPointers does an operation with two good pointers.
func (m *Memory) ofPointers(op api.BinOp, a, b api.Val) (api.Val, api.Stop) {
	if a.Block != b.Block {
		if m.atEnd(a) || m.atEnd(b) { // where one block ends, the other one may begin
			return undefined()
		}
		return ofUnlike(op)
	}
	switch op {
	case api.OpSub, api.OpEq, api.OpNe, api.OpLtS, api.OpLtU, api.OpLeS, api.OpLeU:
		return ofNumbers(op, a.V, b.V)
	}
	return undefined()
}

// atEnd tells whether a good pointer points behind its block's last byte.
func (m *Memory) atEnd(p api.Val) bool { return p.V == uint32(m.good(p).size) }

// ofPointer does an operation with a good pointer and a number.
func (m *Memory) ofPointer(op api.BinOp, p api.Val, n uint32) (api.Val, api.Stop) {
	switch op {
	case api.OpAdd:
		return m.moved(p, word.Int(n))
	case api.OpSub:
		return m.moved(p, -word.Int(n))
	}
	if n != 0 {
		return undefined()
	}
	return ofUnlike(op)
}

// moved is a good pointer so many bytes further on, if it is good there too.
func (m *Memory) moved(p api.Val, by int) (api.Val, api.Stop) {
	place := int(p.V) + by
	if place < 0 || place > m.good(p).size {
		return undefined()
	}
	return api.Val{Kind: api.ValPtr, V: uint32(place), Block: p.Block}, 0
}

// ofUnlike compares two values of which no more is known than that they are not equal.
func ofUnlike(op api.BinOp) (api.Val, api.Stop) {
	switch op {
	case api.OpEq:
		return numberOf(0), 0
	case api.OpNe:
		return numberOf(1), 0
	}
	return undefined()
}

// numberOf is a number as a value.
func numberOf(v uint32) api.Val { return api.Val{Kind: api.ValNum, V: v} }

// undefined is the answer of all that is.
func undefined() (api.Val, api.Stop) { return api.Val{}, api.StopUndef }

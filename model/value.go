package model

import (
	"mortise/api"
	"mortise/word"
)

// value is what a node has: of a scalar, and of a place, a Val; of a struct or a union its bytes, set or not. Nothing has neither.
type value struct {
	scalar api.Val
	bytes  []api.Cell
}

// number is a number as a Val.
func number(v uint32) api.Val { return api.Val{Kind: api.ValNum, V: v} }

// truth is a truth as a value.
func truth(yes bool) value {
	if yes {
		return value{scalar: number(1)}
	}
	return value{scalar: number(0)}
}

// numberOf is the number that a Val must be.
func numberOf(v api.Val) uint32 {
	want(v.Kind == api.ValNum)
	return v.V
}

// pointerOf is the pointer that a Val must be.
func pointerOf(v api.Val) api.Val {
	want(v.Kind == api.ValPtr)
	return v
}

// isNothing tells whether a value is that of a function that ended without one.
func (v value) isNothing() bool { return v.scalar == api.Val{} && len(v.bytes) == 0 }

// taken is a value that is taken for something, so that nothing will not do.
func (v value) taken() value {
	want(!v.isNothing())
	return v
}

// points tells whether a Val is one that pointers have: one of a block, or the number 0.
func points(v api.Val) bool { return v.Kind == api.ValPtr || v == number(0) }

// further is a pointer so many bytes further on, wherever that is.
func further(p api.Val, by int) api.Val {
	p.V += word.Of(by)
	return p
}

// convert is a Val as a type's.
func (m *machine) convert(v api.Val, id int) api.Val {
	kind := m.shape(id).kind
	if kind == api.TPtr {
		return v
	}
	return number(word.Convert(kind, numberOf(v)))
}

// reckon is layer 11's Bin.
func (m *machine) reckon(op api.BinOp, a, b api.Val) api.Val {
	v, stop := m.memory.Bin(op, a, b)
	heed(stop)
	return v
}

// reckonNumbers is layer 1's Bin.
func reckonNumbers(op api.BinOp, a, b api.Val) api.Val {
	v, ok := word.Bin(op, numberOf(a), numberOf(b))
	if !ok {
		heed(api.StopZero)
	}
	return number(v)
}

// moved is a pointer moved by a number of elements of some bytes each.
func (m *machine) moved(p, n api.Val, scale int) api.Val {
	by := numberOf(n) * word.Of(scale)
	return m.reckon(api.OpAdd, pointerOf(p), number(by))
}

// between is how many elements of some bytes each a pointer is behind another one.
func (m *machine) between(p, q api.Val, scale int) api.Val {
	bytes := m.reckon(api.OpSub, pointerOf(p), pointerOf(q))
	n := word.Int(numberOf(bytes))
	want(scale != 0 && n%scale == 0)
	return number(word.Of(n / scale))
}

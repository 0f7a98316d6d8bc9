package check

import (
	"slices"

	"mortise/api"
	"mortise/conv"
	"mortise/layout"
	"mortise/word"
)

// constant is the number that an expression must be.
func (c *checker) constant(x api.Tree) int {
	v := c.value(x)
	n, code := c.reckon(v)
	refuse(code, x.At)
	return c.told(n, v.Type)
}

// isZero tells whether a value is an integer constant 0.
func (c *checker) isZero(v api.Tree) bool {
	n, code := c.reckon(v)
	return code == api.OK && n == 0
}

// reckon is the number that a value is, or why it is no constant. What it is made of is looked at first: a division by zero is one of constants alone.
func (c *checker) reckon(v api.Tree) (uint32, api.Errno) {
	if !c.isConstant(v) {
		return 0, api.ErrConst
	}
	return c.fold(v)
}

// isConstant tells whether a value is made of integers that constants are made of.
func (c *checker) isConstant(v api.Tree) bool {
	switch v.Kind {
	case api.TxConst, api.TxConv, api.TxNot, api.TxBin, api.TxAnd, api.TxOr, api.TxCond:
	default:
		return false
	}
	isOther := func(part api.Tree) bool { return !c.isConstant(part) }
	return c.isInteger(v.Type) && !slices.ContainsFunc(v.Sub, isOther)
}

// fold reckons a constant. All of its parts must be constants, also those that would not be asked.
func (c *checker) fold(v api.Tree) (uint32, api.Errno) {
	var parts [3]uint32
	for i, part := range v.Sub {
		n, code := c.fold(part)
		if code != api.OK {
			return 0, code
		}
		parts[i] = n
	}
	a, b := parts[0], parts[1]
	switch v.Kind {
	case api.TxConv:
		return word.Convert(c.kind(v.Type), a), api.OK
	case api.TxBin:
		return conv.Fold(c.kind(v.Type), api.BinOp(v.Num), a, b)
	case api.TxNot:
		return truth(a == 0), api.OK
	case api.TxAnd:
		return truth(a != 0 && b != 0), api.OK
	case api.TxOr:
		return truth(a != 0 || b != 0), api.OK
	case api.TxCond:
		return parts[2-truth(a != 0)], api.OK
	}
	return word.Of(v.Num), api.OK
}

// truth is 1 or 0.
func truth(holds bool) uint32 {
	if holds {
		return 1
	}
	return 0
}

// The kinds of an api.Const.
const (
	constNumber  = 0
	constAddress = 1
	constText    = 2
)

// initially is what a value is that an object of static storage has at first, or false, if it is no constant.
func (c *checker) initially(v api.Tree) (api.Const, bool) {
	if v.Kind == api.TrStr {
		return api.Const{Kind: constText, Text: v.Text}, true
	}
	if c.isNull(v) {
		return api.Const{Kind: constNumber}, true
	}
	if n, code := c.reckon(v); code == api.OK {
		return api.Const{Kind: constNumber, V: n}, true
	}
	at, ok := c.pointedAt(v)
	if !ok || !c.within(at) {
		return api.Const{}, false
	}
	return api.Const{Kind: constAddress, Global: at.global, V: word.Of(at.off)}, true
}

// isNull tells whether a value is the number 0 as a pointer: it stays that as any other pointer.
func (c *checker) isNull(v api.Tree) bool {
	for v.Kind == api.TxConv && c.isPointer(v.Type) {
		v = v.Sub[0]
	}
	return v.Kind == api.TxConst && c.isPointer(v.Type)
}

// address is a byte of a global.
type address struct {
	global int
	off    int
}

// within tells whether an address lies within its global, or right behind it.
func (c *checker) within(at address) bool {
	size, code := layout.Size(c.types, c.globals[at.global].Type)
	return code == api.OK && 0 <= at.off && at.off <= size
}

// pointedAt is the address that a value is.
func (c *checker) pointedAt(v api.Tree) (address, bool) {
	switch {
	case v.Kind == api.TxAddr:
		return c.lying(v.Sub[0])
	case v.Kind == api.TxConv && c.isPointer(v.Type):
		return c.pointedAt(v.Sub[0])
	case v.Kind != api.TxPtrAdd:
		return address{}, false
	}
	at, ok := c.pointedAt(v.Sub[0])
	n, code := c.reckon(v.Sub[1])
	at.off += word.Int(n) * v.Num
	return at, ok && code == api.OK
}

// lying is the address at which a place lies.
func (c *checker) lying(place api.Tree) (address, bool) {
	switch place.Kind {
	case api.TxGlobal:
		return address{global: place.Num}, true
	case api.TxPart:
		at, ok := c.lying(place.Sub[0])
		at.off += place.Num / offsetUnit
		return at, ok && fieldBits(place) == 0
	case api.TxDeref:
		return c.pointedAt(place.Sub[0])
	}
	return address{}, false
}

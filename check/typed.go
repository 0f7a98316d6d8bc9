package check

import (
	"mortise/api"
	"mortise/conv"
	"mortise/word"
)

// typed makes a typed node.
func typed(k api.TreeKind, id, num int, sub ...api.Tree) api.Tree {
	return api.Tree{Kind: k, Type: id, Num: num, Sub: sub}
}

// number is a number of a type.
func number(n, id int) api.Tree { return typed(api.TxConst, id, n) }

// told is what 32 bits are as a number of a type.
func (c *checker) told(v uint32, id int) int {
	if word.Signed(c.kind(id)) {
		return word.Int(v)
	}
	return int(v)
}

// isPlace tells whether a typed node is a place. (A TxPart is made of places alone.)
func isPlace(x api.Tree) bool {
	switch x.Kind {
	case api.TxLocal, api.TxGlobal, api.TxDeref, api.TxPart, api.TxLit:
		return true
	}
	return false
}

// How the Num of a TxPart is put together.
const (
	offsetUnit = 2048
	bitUnit    = 64
)

// part is the part of a place that lies at p.
func part(place api.Tree, p api.Place) api.Tree {
	return typed(api.TxPart, p.Type, p.Off*offsetUnit+p.Bit*bitUnit+p.Bits, place)
}

// fieldBits is how many bits a place has that is a bit-field, else 0.
func fieldBits(place api.Tree) int {
	if place.Kind != api.TxPart {
		return 0
	}
	return place.Num % bitUnit
}

// value is an expression whose value is asked for.
func (c *checker) value(x api.Tree) api.Tree {
	v := c.valueOrVoid(x)
	want(v.Type != voidType, api.ErrOperand, x.At)
	return v
}

// valueOrVoid is an expression that may be of type void, too.
func (c *checker) valueOrVoid(x api.Tree) api.Tree { return c.read(c.expr(x), x.At) }

// read is what a place has; a value stays itself.
func (c *checker) read(x api.Tree, at api.Spot) api.Tree {
	if !isPlace(x) {
		return x
	}
	if row := c.row(x.Type); row.Kind == api.TArray {
		return typed(api.TxAddr, c.pointer(row.Elem, at), 0, x)
	}
	c.size(x.Type, at)
	return typed(api.TxRead, x.Type, 0, x)
}

// converted is a value as a type.
func converted(v api.Tree, id int) api.Tree {
	if v.Type == id {
		return v
	}
	return typed(api.TxConv, id, 0, v)
}

// taken is a value as an object of a type takes it, or false, if that takes no such value.
func (c *checker) taken(v api.Tree, id int) (api.Tree, bool) {
	if c.isPointer(id) && c.isZero(v) {
		return number(0, id), true
	}
	return converted(v, id), conv.Assign(c.types, id, v.Type) == api.OK
}

// promoted is a value that is promoted, if it is read of a bit-field.
func (c *checker) promoted(v api.Tree) api.Tree {
	if v.Kind != api.TxRead {
		return v
	}
	return c.promotedOf(v, v.Sub[0])
}

// promotedOf is what a place has, promoted, if that is a bit-field.
func (c *checker) promotedOf(v, place api.Tree) api.Tree {
	bits := fieldBits(place)
	if bits == 0 {
		return v
	}
	return converted(v, basic(conv.Promote(c.kind(v.Type), bits)))
}

// operand is the number with which operands are refused that layer 7 refuses.
func operand(code api.Errno) api.Errno {
	if code == api.ErrKind {
		return api.ErrOperand
	}
	return code
}

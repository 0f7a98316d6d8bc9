package check

import (
	"strings"

	"mortise/api"
	"mortise/conv"
)

// behind is the Num of a TxUpdate whose value is what the place had.
const behind = 1

// unary types an operator ahead of its operand.
func (c *checker) unary(x api.Tree) api.Tree {
	switch x.Text {
	case "&":
		return c.address(x)
	case "*":
		return c.pointed(c.value(x.Sub[0]), x.At)
	case "!":
		return c.not(c.value(x.Sub[0]), x.At)
	case "++", "--":
		return c.step(x, 0)
	}
	return c.sign(x)
}

// address types an &.
func (c *checker) address(x api.Tree) api.Tree {
	place := c.expr(x.Sub[0])
	want(isPlace(place) && fieldBits(place) == 0, api.ErrLvalue, x.At)
	return typed(api.TxAddr, c.pointer(place.Type, x.At), 0, place)
}

// pointed is what a value points to.
func (c *checker) pointed(v api.Tree, at api.Spot) api.Tree {
	row := c.row(v.Type)
	want(row.Kind == api.TPtr && row.Elem != voidType, api.ErrOperand, at)
	return typed(api.TxDeref, row.Elem, 0, v)
}

// not is 1, if a value is 0, else 0.
func (c *checker) not(v api.Tree, at api.Spot) api.Tree {
	id, code := conv.Unary(c.types, "!", v.Type)
	refuse(operand(code), at)
	return typed(api.TxNot, id, 0, v)
}

// sign types a +, a - or a ~.
func (c *checker) sign(x api.Tree) api.Tree {
	v := c.promoted(c.value(x.Sub[0]))
	id, code := conv.Unary(c.types, x.Text, v.Type)
	refuse(operand(code), x.At)
	v = converted(v, id)
	switch x.Text {
	case "-":
		return negative(v)
	case "~":
		ones := number(c.told(^uint32(0), id), id)
		return typed(api.TxBin, id, int(api.OpXor), v, ones)
	}
	return v
}

// negative is 0 less a value.
func negative(v api.Tree) api.Tree {
	return typed(api.TxBin, v.Type, int(api.OpSub), number(0, v.Type), v)
}

// between types an operator between two operands.
func (c *checker) between(x api.Tree) api.Tree {
	if x.Text == "," {
		a := c.valueOrVoid(x.Sub[0])
		b := c.value(x.Sub[1])
		return typed(api.TxComma, b.Type, 0, a, b)
	}
	a, b := c.value(x.Sub[0]), c.value(x.Sub[1])
	switch x.Text {
	case "&&":
		return c.logical(api.TxAnd, a, b, x.At)
	case "||":
		return c.logical(api.TxOr, a, b, x.At)
	}
	return c.binary(x.Text, c.promoted(a), c.promoted(b), x.At)
}

// logical asks two scalars.
func (c *checker) logical(k api.TreeKind, a, b api.Tree, at api.Spot) api.Tree {
	want(c.types.Scalar(a.Type) && c.types.Scalar(b.Type), api.ErrOperand, at)
	return typed(k, intType, 0, a, b)
}

// binary is what layer 7's Binary does with two promoted values.
func (c *checker) binary(op string, a, b api.Tree, at api.Spot) api.Tree {
	if op == "==" || op == "!=" {
		a, b = c.zeroBeside(a, b)
	}
	o, code := conv.Binary(c.types, op, a.Type, b.Type)
	refuse(operand(code), at)
	exchanged := op == ">" || op == ">="
	switch left, right := c.isPointer(a.Type), c.isPointer(b.Type); {
	case left && right && op == "-":
		return typed(api.TxDiff, o.Result, o.Scale, a, b)
	case left && right:
		return comparison(api.TxCmp, o, a, b, exchanged)
	case left:
		return moved(a, b, o)
	case right:
		return moved(b, a, o)
	}
	return comparison(api.TxBin, o, a, b, exchanged)
}

// comparison (or any other operation on two values of which neither is scaled) is done to them as o says, in the other order, if they are exchanged.
func comparison(k api.TreeKind, o api.Oper, a, b api.Tree, exchanged bool) api.Tree {
	a, b = converted(a, o.Left), converted(b, o.Right)
	if exchanged {
		a, b = b, a
	}
	return typed(k, o.Result, int(o.Op), a, b)
}

// moved is a pointer that is moved by a number of elements, backwards, if o subtracts.
func moved(pointer, by api.Tree, o api.Oper) api.Tree {
	by = converted(by, intType)
	if o.Op == api.OpSub {
		by = negative(by)
	}
	return typed(api.TxPtrAdd, pointer.Type, o.Scale, pointer, by)
}

// zeroBeside are two values, of which an integer constant 0 has become the type of the pointer that stands beside it.
func (c *checker) zeroBeside(a, b api.Tree) (api.Tree, api.Tree) {
	switch {
	case c.isPointer(a.Type) && c.isZero(b):
		b = number(0, a.Type)
	case c.isPointer(b.Type) && c.isZero(a):
		a = number(0, b.Type)
	}
	return a, b
}

// index types an element of an array.
func (c *checker) index(x api.Tree) api.Tree {
	a, b := c.value(x.Sub[0]), c.value(x.Sub[1])
	return c.pointed(c.binary("+", c.promoted(a), c.promoted(b), x.At), x.At)
}

// cond types a conditional.
func (c *checker) cond(x api.Tree) api.Tree {
	asked := c.value(x.Sub[0])
	a, b := c.valueOrVoid(x.Sub[1]), c.valueOrVoid(x.Sub[2])
	want(c.types.Scalar(asked.Type), api.ErrOperand, x.At)
	a, b = c.zeroBeside(a, b)
	a, b = c.promoted(a), c.promoted(b)
	id, code := conv.Cond(c.types, a.Type, b.Type)
	refuse(operand(code), x.At)
	return typed(api.TxCond, id, 0, asked, converted(a, id), converted(b, id))
}

// set types an assignment.
func (c *checker) set(x api.Tree) api.Tree {
	place, v := c.expr(x.Sub[0]), c.value(x.Sub[1])
	if x.Text != "=" {
		return c.update(x, strings.TrimSuffix(x.Text, "="), place, v)
	}
	want(isPlace(place) && c.kind(place.Type) != api.TArray, api.ErrLvalue, x.At)
	c.size(place.Type, x.At)
	v, ok := c.taken(v, place.Type)
	want(ok, api.ErrOperand, x.At)
	return setTo(place, v)
}

// setTo sets a place to a value.
func setTo(place, v api.Tree) api.Tree { return typed(api.TxSet, place.Type, 0, place, v) }

// step types a ++ or a --.
func (c *checker) step(x api.Tree, num int) api.Tree {
	u := c.update(x, x.Text[:1], c.expr(x.Sub[0]), number(1, intType))
	u.Num = num
	return u
}

// update sets a place to what an operator makes of what it has.
func (c *checker) update(x api.Tree, op string, place, by api.Tree) api.Tree {
	want(isPlace(place), api.ErrLvalue, x.At)
	want(c.types.Scalar(place.Type), api.ErrOperand, x.At)
	old := c.promotedOf(typed(api.TxOld, place.Type, 0), place)
	v, ok := c.taken(c.binary(op, old, c.promoted(by), x.At), place.Type)
	want(ok, api.ErrOperand, x.At)
	return typed(api.TxUpdate, place.Type, 0, place, v)
}

// cast types a cast.
func (c *checker) cast(x api.Tree) api.Tree {
	to := c.typeName(x.Sub[0])
	if to == voidType {
		return typed(api.TxVoid, voidType, 0, c.valueOrVoid(x.Sub[1]))
	}
	v := c.value(x.Sub[1])
	if c.isPointer(to) && c.isZero(v) {
		return number(0, to)
	}
	refuse(operand(conv.Cast(c.types, to, v.Type)), x.At)
	if c.isPointer(v.Type) && c.kind(to) == api.TBool {
		v = c.not(c.not(v, x.At), x.At)
	}
	return converted(v, to)
}

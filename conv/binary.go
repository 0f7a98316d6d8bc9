package conv

import (
	"mortise/api"
	"mortise/layout"
	"mortise/word"
)

// rule answers what tells the operator's work on this pair.
func (p pair) rule() func() (api.Oper, api.Errno) {
	switch p.op {
	case "*", "/", "%", "&", "|", "^":
		return p.arithmetic
	case "+":
		return p.sum
	case "-":
		return p.difference
	case "<<", ">>":
		return p.shift
	case "==", "!=":
		return p.equality
	case "<", "<=", ">", ">=":
		return p.order
	}
	return p.nothing
}

// nothing refuses the operator or its operands.
func (p pair) nothing() (api.Oper, api.Errno) { return api.Oper{}, api.ErrKind }

// arithmetic is done in the usual type of two integers.
func (p pair) arithmetic() (api.Oper, api.Errno) {
	if !p.integers() {
		return p.nothing()
	}
	k := p.usual()
	id := basic(p.types, k)
	return api.Oper{Op: operation(p.op, word.Signed(k)), Left: id, Right: id, Result: id}, api.OK
}

// sum adds numbers, or moves a pointer on, which may stand on either side.
func (p pair) sum() (api.Oper, api.Errno) {
	switch {
	case p.left.isPointer() && p.right.isInteger():
		return p.scaled(p.left, api.Oper{Op: api.OpAdd, Left: p.left.id, Right: p.intType(), Result: p.left.id})
	case p.left.isInteger() && p.right.isPointer():
		return p.scaled(p.right, api.Oper{Op: api.OpAdd, Left: p.intType(), Right: p.right.id, Result: p.right.id})
	}
	return p.arithmetic()
}

// difference subtracts numbers, moves a pointer back, or counts the elements between two pointers.
func (p pair) difference() (api.Oper, api.Errno) {
	switch {
	case p.left.isPointer() && p.right.isInteger():
		return p.scaled(p.left, api.Oper{Op: api.OpSub, Left: p.left.id, Right: p.intType(), Result: p.left.id})
	case p.pointers() && p.same():
		return p.scaled(p.left, api.Oper{Op: api.OpSub, Left: p.left.id, Right: p.left.id, Result: p.intType()})
	}
	return p.arithmetic()
}

// shift is done in the promoted type of the number that is shifted alone.
func (p pair) shift() (api.Oper, api.Errno) {
	if !p.integers() {
		return p.nothing()
	}
	k := p.left.promoted()
	id := basic(p.types, k)
	return api.Oper{Op: operation(p.op, word.Signed(k)), Left: id, Right: p.intType(), Result: id}, api.OK
}

// equality compares numbers, or pointers of which one may be to void.
func (p pair) equality() (api.Oper, api.Errno) { return p.comparison(p.related()) }

// order compares numbers, or pointers of one type.
func (p pair) order() (api.Oper, api.Errno) { return p.comparison(p.pointers() && p.same()) }

// comparison compares numbers in their usual type, and pointers, if these may be compared, as the first one.
func (p pair) comparison(pointers bool) (api.Oper, api.Errno) {
	o := api.Oper{Result: p.intType()}
	switch {
	case p.integers():
		k := p.usual()
		o.Op, o.Left = operation(p.op, word.Signed(k)), basic(p.types, k)
	case pointers:
		o.Op, o.Left = operation(p.op, false), p.left.id
	default:
		return p.nothing()
	}
	o.Right = o.Left
	return o, api.OK
}

// intType is the type int.
func (p pair) intType() int { return basic(p.types, api.TInt) }

// scaled completes what is done with a pointer by its element's size.
func (p pair) scaled(pointer operand, o api.Oper) (api.Oper, api.Errno) {
	size, err := layout.Size(p.types, pointer.row.Elem)
	if err != api.OK {
		return api.Oper{}, err
	}
	o.Scale = size
	return o, api.OK
}

// operation is what an operator does with two numbers. Of > and >= it is that of the exchanged operands.
func operation(op string, signed bool) api.BinOp {
	switch op {
	case "+":
		return api.OpAdd
	case "-":
		return api.OpSub
	case "*":
		return api.OpMul
	case "/":
		return either(signed, api.OpDivS, api.OpDivU)
	case "%":
		return either(signed, api.OpRemS, api.OpRemU)
	case "&":
		return api.OpAnd
	case "|":
		return api.OpOr
	case "^":
		return api.OpXor
	case "<<":
		return api.OpShl
	case ">>":
		return either(signed, api.OpShrS, api.OpShrU)
	case "==":
		return api.OpEq
	case "!=":
		return api.OpNe
	case "<", ">":
		return either(signed, api.OpLtS, api.OpLtU)
	}
	return either(signed, api.OpLeS, api.OpLeU) // <= and >=
}

// either is the operation on numbers that may be below 0, or on such that may not.
func either(signed bool, below, above api.BinOp) api.BinOp {
	if signed {
		return below
	}
	return above
}

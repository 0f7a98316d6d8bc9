package conv

import (
	"mortise/api"
	"mortise/ctype"
)

// operand is a type and its row.
type operand struct {
	id  int
	row api.TypeRow
}

// operandOf answers a type as an operand, or why it is none.
func operandOf(t *ctype.Table, id int) (operand, api.Errno) {
	if t.Len() == 0 { // each call that makes a table lays down the basic types
		return operand{}, api.ErrNil
	}
	row, ok := t.Row(id)
	if !ok {
		return operand{}, api.ErrType
	}
	return operand{id: id, row: row}, api.OK
}

// isInteger tells whether it is a number's type.
func (o operand) isInteger() bool { return isInteger(o.row.Kind) }

// isPointer tells whether it is a pointer.
func (o operand) isPointer() bool { return o.row.Kind == api.TPtr }

// isToVoid tells whether it is a pointer to void.
func (o operand) isToVoid() bool { return o.isPointer() && o.row.Elem == voidType }

// promoted is the kind of its promoted value.
func (o operand) promoted() api.TypeKind { return Promote(o.row.Kind, noField) }

// voidType is the number that void has in every table.
const voidType = 0

// basic is the number of a kind's basic type.
func basic(t *ctype.Table, k api.TypeKind) int {
	id, _ := t.Basic(k)
	return id
}

// pair is two operands of one table, and the operator between them, if there is one.
type pair struct {
	types *ctype.Table
	op    string
	left  operand
	right operand
}

// pairOf answers two types as operands, or why they are none.
func pairOf(t *ctype.Table, a, b int) (pair, api.Errno) {
	left, err := operandOf(t, a)
	if err != api.OK {
		return pair{}, err
	}
	right, err := operandOf(t, b)
	if err != api.OK {
		return pair{}, err
	}
	return pair{types: t, left: left, right: right}, api.OK
}

// same tells whether both are one type: pointers stand once in a table, so the numbers tell it.
func (p pair) same() bool { return p.left.id == p.right.id }

// integers tells whether both are integers.
func (p pair) integers() bool { return p.left.isInteger() && p.right.isInteger() }

// pointers tells whether both are pointers.
func (p pair) pointers() bool { return p.left.isPointer() && p.right.isPointer() }

// related tells whether both are pointers of one type, or one of them is to void.
func (p pair) related() bool {
	return p.pointers() && (p.same() || p.left.isToVoid() || p.right.isToVoid())
}

// records tells whether both are one struct or union.
func (p pair) records() bool {
	k := p.left.row.Kind
	return p.same() && (k == api.TStruct || k == api.TUnion)
}

// voids tells whether both are void.
func (p pair) voids() bool { return p.same() && p.left.row.Kind == api.TVoid }

// usual is the kind to which two integers are converted.
func (p pair) usual() api.TypeKind {
	k, _ := Usual(p.left.row.Kind, p.right.row.Kind)
	return k
}

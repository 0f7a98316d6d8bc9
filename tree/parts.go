package tree

import (
	"math"

	"mortise/api"
)

// set is a set of kinds: kind k is bit k of it.
type set uint64

// has tells whether a kind is in the set. Kinds of typed trees, and what is no kind, may lie beyond its bits.
func (s set) has(k api.TreeKind) bool {
	return k >= 0 && k < 64 && s>>k&1 == 1
}

// What the places for parts want: the letters of the chapter's table, and sets that it writes out.
const (
	atoms      set = 1<<api.TrStr | 1<<api.TrName | 1<<api.TrInt | 1<<api.TrChr
	expr       set = 1<<(api.TrLit+1) - 1<<api.TrUn | atoms
	initialise set = expr | 1<<api.TrList
	specifier  set = 1<<api.TrBase | 1<<api.TrTag | 1<<api.TrAlias
	declarator set = 1<<api.TrHole | 1<<api.TrPtr | 1<<api.TrArray | 1<<api.TrFn
	typeName   set = 1 << api.TrType
	statement  set = 1<<(api.TsReturn+1) - 1<<api.TsBlock
	designator set = 1<<api.TrAt | 1<<api.TrDot
	none       set = 1 << api.TsNone
	declare    set = 1 << api.TrDecl
)

// part is what a place wants: kinds, and how many parts may stand there.
type part struct {
	kinds set
	least int
	most  int
}

// The four ways in which the table counts parts.
func one(s set) part   { return part{s, 1, 1} }
func maybe(s set) part { return part{s, 0, 1} }
func more(s set) part  { return part{s, 0, math.MaxInt} }
func some(s set) part  { return part{s, 1, math.MaxInt} }

// partsOf tells what a kind's places want, or that the table does not have the kind.
func partsOf(k api.TreeKind) ([]part, bool) {
	if l, ok := partsOfExpr(k); ok {
		return l, true
	}
	if l, ok := partsOfDecl(k); ok {
		return l, true
	}
	return partsOfStatement(k)
}

// partsOfExpr is partsOf the kinds of expressions and initialisers.
func partsOfExpr(k api.TreeKind) ([]part, bool) {
	switch k {
	case api.TrName, api.TrInt, api.TrChr, api.TrStr, api.TrDot:
		return nil, true
	case api.TrUn, api.TrPost, api.TrMember, api.TrArrow, api.TrSizeE, api.TrAt:
		return []part{one(expr)}, true
	case api.TrBi, api.TrSet, api.TrIndex:
		return []part{one(expr), one(expr)}, true
	case api.TrCond:
		return []part{one(expr), one(expr), one(expr)}, true
	case api.TrCall:
		return []part{more(expr)}, true
	case api.TrCast:
		return []part{one(typeName), one(expr)}, true
	case api.TrSizeT:
		return []part{one(typeName)}, true
	case api.TrOffset:
		return []part{one(typeName), one(1 << api.TrDot), more(designator)}, true
	case api.TrLit:
		return []part{one(typeName), one(1 << api.TrList)}, true
	case api.TrList:
		return []part{some(1 << api.TrItem)}, true
	case api.TrItem:
		return []part{more(designator), one(initialise)}, true
	}
	return nil, false
}

// partsOfDecl is partsOf the kinds of types and declarations.
func partsOfDecl(k api.TreeKind) ([]part, bool) {
	switch k {
	case api.TrBase, api.TrAlias, api.TrHole:
		return nil, true
	case api.TrTag:
		return []part{maybe(1 << api.TrBody)}, true
	case api.TrBody:
		return []part{some(1<<api.TrFields | 1<<api.TrEnum)}, true
	case api.TrPtr:
		return []part{one(declarator)}, true
	case api.TrArray, api.TrField:
		return []part{one(declarator), maybe(expr)}, true
	case api.TrFn:
		return []part{one(declarator), more(1 << api.TrParam)}, true
	case api.TrParam, api.TrType:
		return []part{one(specifier), one(declarator)}, true
	case api.TrDecl:
		return []part{one(specifier), more(1 << api.TrVar)}, true
	case api.TrVar:
		return []part{one(declarator), maybe(initialise)}, true
	case api.TrFields:
		return []part{one(specifier), some(1 << api.TrField)}, true
	case api.TrEnum:
		return []part{maybe(expr)}, true
	case api.TrFunc:
		return []part{one(specifier), one(1 << api.TrFn), one(1 << api.TsBlock)}, true
	case api.TrUnit:
		return []part{more(declare | 1<<api.TrFunc)}, true
	}
	return nil, false
}

// partsOfStatement is partsOf the kinds of statements.
func partsOfStatement(k api.TreeKind) ([]part, bool) {
	switch k {
	case api.TsNone, api.TsBreak, api.TsContinue:
		return nil, true
	case api.TsBlock:
		return []part{more(statement | declare)}, true
	case api.TsExpr:
		return []part{one(expr)}, true
	case api.TsIf:
		return []part{one(expr), one(statement), maybe(statement)}, true
	case api.TsWhile:
		return []part{one(expr), one(statement)}, true
	case api.TsDo:
		return []part{one(statement), one(expr)}, true
	case api.TsFor:
		return []part{one(1<<api.TsExpr | declare | none), one(expr | none), one(expr | none), one(statement)}, true
	case api.TsReturn:
		return []part{maybe(expr)}, true
	}
	return nil, false
}

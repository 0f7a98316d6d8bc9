package check

import (
	"mortise/api"
	"mortise/ctype"
	"mortise/layout"
)

// checker goes through a unit, and gathers its program.
type checker struct {
	types      *ctype.Table
	nameless   int // how many types without a name there are
	scope      *scope
	globals    []api.Global
	functions  []*function
	frame      *frame // of the function whose block is gone through; nil at the unit's level
	exprs      map[api.TreeKind]func(api.Tree) api.Tree
	statements map[api.TreeKind]func(api.Tree) api.Tree
}

// function is a function: what a call of it becomes, and its number among the program's, if that is a TxCall.
type function struct {
	call    api.TreeKind
	num     int
	name    string
	result  int
	params  []int
	at      api.Spot // where it was declared first
	defined bool
	locals  []int
	body    api.Tree
}

// frame is what is known of a function while its block is gone through.
type frame struct {
	result int
	locals []int
	loops  int // within how many loops one is
}

// newChecker makes a checker that is in the unit's scope, within the outermost one.
func newChecker() *checker {
	c := &checker{types: ctype.New()}
	c.exprs, c.statements = c.exprKinds(), c.statementKinds()
	c.open()
	for _, f := range []*function{
		{name: "putchar", call: api.TxPut, result: intType, params: []int{intType}},
		{name: "getchar", call: api.TxGet, result: intType},
		{name: "exit", call: api.TxExit, result: voidType, params: []int{intType}},
	} {
		c.declare(f.name, &symbol{as: aFunction, function: f}, api.Spot{})
	}
	c.open()
	return c
}

// unit goes through a unit.
func (c *checker) unit(x api.Tree) {
	for _, part := range x.Sub {
		if part.Kind == api.TrFunc {
			c.definition(part)
		} else {
			c.declaration(part)
		}
	}
}

// program is the program of the unit that was gone through.
func (c *checker) program() api.Prog {
	p := api.Prog{Types: c.types.Rows(), Globals: c.globals}
	for _, f := range c.functions {
		want(f.defined, api.ErrDeclare, f.at)
		p.Funcs = append(p.Funcs, api.Func{Name: f.name, Result: f.result, Params: len(f.params), Locals: f.locals, Body: f.body})
	}
	p.Main = c.main().num
	return p
}

// main is the function with which a program begins.
func (c *checker) main() *function {
	s, ok := c.scope.names["main"]
	want(ok && s.as == aFunction, api.ErrMain, api.Spot{})
	want(s.function.result == intType && len(s.function.params) == 0, api.ErrMain, api.Spot{})
	return s.function
}

// The numbers that basic types have in every table.
const (
	voidType = int(api.TVoid - api.TVoid)
	charType = int(api.TChar - api.TVoid)
	intType  = int(api.TInt - api.TVoid)
	uintType = int(api.TUInt - api.TVoid)
)

// basic is the number of a kind's basic type.
func basic(k api.TypeKind) int { return int(k - api.TVoid) }

// pointer is the pointer to a type.
func (c *checker) pointer(id int, at api.Spot) int {
	p, code := c.types.Ptr(id)
	refuse(code, at)
	return p
}

// array is the array of so many elements.
func (c *checker) array(elem, n int, at api.Spot) int {
	a, code := c.types.Array(elem, n)
	refuse(code, at)
	return a
}

// row is a type's row.
func (c *checker) row(id int) api.TypeRow {
	row, _ := c.types.Row(id)
	return row
}

// kind is a type's kind.
func (c *checker) kind(id int) api.TypeKind { return c.row(id).Kind }

// isInteger tells whether a type is a number's.
func (c *checker) isInteger(id int) bool {
	k := c.kind(id)
	return api.TBool <= k && k <= api.TEnum
}

// isPointer tells whether a type is a pointer.
func (c *checker) isPointer(id int) bool { return c.kind(id) == api.TPtr }

// isRecord tells whether a type is a struct or a union.
func (c *checker) isRecord(id int) bool {
	k := c.kind(id)
	return k == api.TStruct || k == api.TUnion
}

// size is a type's size, which it must have.
func (c *checker) size(id int, at api.Spot) int {
	n, code := layout.Size(c.types, id)
	refuse(code, at)
	return n
}

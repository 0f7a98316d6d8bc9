package check

import "mortise/api"

// untold is the Len of an array whose length is not told.
const untold = -1

// maxParams is how many parameters a function may have: a call has MaxArgs arguments, of which one may be where the result is put.
const maxParams = api.MaxArgs - 1

// declarator is the type of a declarator whose specifier says base; at is the spot of what is declared. The types of parts are made ahead of those that have them, so the innermost part is asked first.
func (c *checker) declarator(x api.Tree, base int, at api.Spot) int {
	if x.Kind == api.TrHole {
		return base
	}
	inner := c.declarator(x.Sub[0], base, at)
	switch x.Kind {
	case api.TrPtr:
		return c.pointer(inner, at)
	case api.TrArray:
		return c.array(inner, c.length(x, at), at)
	}
	c.params(x)
	refuse(api.ErrDeclare, at)
	return 0
}

// length is the Len of an array.
func (c *checker) length(x api.Tree, at api.Spot) int {
	if len(x.Sub) < 2 {
		return untold
	}
	n := c.constant(x.Sub[1])
	want(1 <= n && n <= api.MaxSize, api.ErrDeclare, at)
	return n
}

// typeName is the type that a type's name names.
func (c *checker) typeName(x api.Tree) int {
	base := c.specifier(x.Sub[0], true)
	return c.declarator(x.Sub[1], base, x.At)
}

// params are the types of a function's parameters, and the scope that has their names.
func (c *checker) params(fn api.Tree) ([]int, *scope) {
	c.open()
	var l []int
	for _, x := range fn.Sub[1:] {
		id := c.param(x)
		want(len(l) < maxParams, api.ErrTooLarge, x.At)
		if x.Text != "" {
			c.declare(x.Text, &symbol{as: aLocal, id: id, num: len(l)}, x.At)
		}
		l = append(l, id)
	}
	return l, c.close()
}

// param is the type of a parameter. What is not whole has no size.
func (c *checker) param(x api.Tree) int {
	base := c.specifier(x.Sub[0], true)
	id := c.declarator(x.Sub[1], base, x.At)
	if row := c.row(id); row.Kind == api.TArray {
		id = c.pointer(row.Elem, x.At)
	}
	c.size(id, x.At)
	return id
}

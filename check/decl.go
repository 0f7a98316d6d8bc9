package check

import (
	"slices"

	"mortise/api"
)

// The Nums of a TrDecl that are asked for.
const (
	typedefs = 1
	statics  = 2
)

// declaration goes through a declaration, and answers the statements that it becomes.
func (c *checker) declaration(x api.Tree) []api.Tree {
	base := c.specifier(x.Sub[0], len(x.Sub) > 1)
	var done []api.Tree
	for _, v := range x.Sub[1:] {
		switch {
		case v.Sub[0].Kind == api.TrFn:
			want(c.frame == nil && x.Num != typedefs && len(v.Sub) == 1, api.ErrDeclare, v.At)
			c.function(v, v.Sub[0], base)
		case x.Num == typedefs:
			c.typedef(v, base)
		default:
			done = append(done, c.object(v, base, x.Num == statics)...)
		}
	}
	return done
}

// typedef declares a name for a type.
func (c *checker) typedef(x api.Tree, base int) {
	id := c.declarator(x.Sub[0], base, x.At)
	want(len(x.Sub) == 1, api.ErrDeclare, x.At)
	c.declare(x.Text, &symbol{as: aTypedef, id: id}, x.At)
}

// object declares an object, and answers the statements that begin it.
func (c *checker) object(x api.Tree, base int, static bool) []api.Tree {
	id := c.declarator(x.Sub[0], base, x.At)
	if len(x.Sub) == 1 {
		c.size(id, x.At)
	}
	if c.frame == nil || static {
		c.global(x, id)
		return nil
	}
	return c.local(x, id)
}

// global declares an object of static storage.
func (c *checker) global(x api.Tree, id int) {
	n := c.newGlobal(x.Text, id, x.At)
	s := &symbol{as: aGlobal, id: id, num: n}
	c.declare(x.Text, s, x.At)
	if len(x.Sub) == 1 {
		c.globals[n].Data = api.Data{Bytes: make([]byte, c.size(id, x.At))}
		return
	}
	c.fill(n, x.Sub[1], x.At)
	s.id = c.globals[n].Type
}

// local declares an object of a function's frame.
func (c *checker) local(x api.Tree, id int) []api.Tree {
	n := c.newLocal(id, x.At)
	s := &symbol{as: aLocal, id: id, num: n}
	c.declare(x.Text, s, x.At)
	if len(x.Sub) == 1 {
		return []api.Tree{typed(api.TsFresh, voidType, n)}
	}
	done := []api.Tree{typed(api.TsZero, voidType, n)}
	for _, set := range c.sets(n, x.Sub[1], x.At) {
		done = append(done, typed(api.TsExpr, voidType, 0, set))
	}
	s.id = c.frame.locals[n]
	return done
}

// newGlobal numbers an object of static storage.
func (c *checker) newGlobal(name string, id int, at api.Spot) int {
	n := len(c.globals)
	want(n < api.MaxGlobals, api.ErrTooLarge, at)
	c.globals = append(c.globals, api.Global{Name: name, Type: id})
	return n
}

// newLocal numbers an object of the function's frame.
func (c *checker) newLocal(id int, at api.Spot) int {
	n := len(c.frame.locals)
	want(n < api.MaxLocals, api.ErrTooLarge, at)
	c.frame.locals = append(c.frame.locals, id)
	return n
}

// function declares the function of a TrVar or a TrFunc, and answers it with the scope of its parameters.
func (c *checker) function(x, fn api.Tree, base int) (*function, *scope) {
	result := c.declarator(fn.Sub[0], base, x.At)
	if result != voidType {
		want(c.types.Whole(result) && c.kind(result) != api.TArray, api.ErrDeclare, x.At)
		c.size(result, x.At)
	}
	params, inner := c.params(fn)
	s, again := c.scope.names[x.Text]
	if again {
		want(s.as == aFunction && s.function.result == result && slices.Equal(s.function.params, params), api.ErrTwice, x.At)
		return s.function, inner
	}
	want(len(c.functions) < api.MaxFuncs, api.ErrTooLarge, x.At)
	f := &function{call: api.TxCall, num: len(c.functions), name: x.Text, result: result, params: params, at: x.At}
	c.functions = append(c.functions, f)
	c.declare(x.Text, &symbol{as: aFunction, function: f}, x.At)
	return f, inner
}

// definition goes through a function's definition. The scope of its parameters is round its block.
func (c *checker) definition(x api.Tree) {
	base := c.specifier(x.Sub[0], true)
	f, inner := c.function(x, x.Sub[1], base)
	want(!f.defined, api.ErrTwice, x.At)
	f.defined = true
	c.scope, c.frame = inner, &frame{result: f.result, locals: slices.Clone(f.params)}
	f.body = c.block(x.Sub[2])
	f.locals = c.frame.locals
	c.frame = nil
	c.close()
}

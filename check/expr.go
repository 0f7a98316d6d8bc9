package check

import (
	"mortise/api"
	"mortise/layout"
)

// expr types an expression: it becomes a place or a value.
func (c *checker) expr(x api.Tree) api.Tree { return c.exprs[x.Kind](x) }

// exprKinds tells for each kind of expressions what types it.
func (c *checker) exprKinds() map[api.TreeKind]func(api.Tree) api.Tree {
	return map[api.TreeKind]func(api.Tree) api.Tree{
		api.TrName:   c.name,
		api.TrInt:    func(x api.Tree) api.Tree { return number(x.Num, baseType(x.Text)) },
		api.TrChr:    func(x api.Tree) api.Tree { return number(x.Num, intType) },
		api.TrStr:    c.text,
		api.TrUn:     c.unary,
		api.TrPost:   func(x api.Tree) api.Tree { return c.step(x, behind) },
		api.TrBi:     c.between,
		api.TrSet:    c.set,
		api.TrCond:   c.cond,
		api.TrCall:   c.call,
		api.TrIndex:  c.index,
		api.TrMember: c.dot,
		api.TrArrow:  c.arrow,
		api.TrCast:   c.cast,
		api.TrSizeE:  c.sizeOfExpr,
		api.TrSizeT:  func(x api.Tree) api.Tree { return c.sizeOf(c.typeName(x.Sub[0]), x.At) },
		api.TrOffset: c.offset,
		api.TrLit:    c.literal,
	}
}

// name types a name.
func (c *checker) name(x api.Tree) api.Tree {
	s := c.named(x.Text, x.At)
	switch s.as {
	case aLocal:
		return typed(api.TxLocal, s.id, s.num)
	case aGlobal:
		return typed(api.TxGlobal, s.id, s.num)
	case aConstant:
		return number(s.num, s.id)
	}
	refuse(api.ErrOperand, x.At)
	return api.Tree{}
}

// text makes a string literal an object.
func (c *checker) text(x api.Tree) api.Tree {
	bytes := append([]byte(x.Text), 0)
	want(len(bytes) <= api.MaxSize, api.ErrLarge, x.At)
	id := c.array(charType, len(bytes), x.At)
	n := c.newGlobal("", id, x.At)
	c.globals[n].Data.Bytes = bytes
	return typed(api.TxGlobal, id, n)
}

// call types a call.
func (c *checker) call(x api.Tree) api.Tree {
	var args []api.Tree
	for _, a := range x.Sub {
		args = append(args, c.value(a))
	}
	s := c.named(x.Text, x.At)
	want(s.as == aFunction, api.ErrCall, x.At)
	f := s.function
	want(len(args) == len(f.params), api.ErrCall, x.At)
	for i, id := range f.params {
		v, ok := c.taken(args[i], id)
		want(ok, api.ErrCall, x.At)
		args[i] = v
	}
	return typed(f.call, f.result, f.num, args...)
}

// dot types a member of a place, or of a value.
func (c *checker) dot(x api.Tree) api.Tree {
	whole := c.expr(x.Sub[0])
	p := c.placeOf(whole.Type, x)
	if isPlace(whole) {
		return part(whole, p)
	}
	return c.read(part(c.kept(whole, x.At), p), x.At)
}

// arrow types a member of what is pointed to.
func (c *checker) arrow(x api.Tree) api.Tree {
	v := c.value(x.Sub[0])
	row := c.row(v.Type)
	want(row.Kind == api.TPtr, api.ErrOperand, x.At)
	p := c.placeOf(row.Elem, x)
	return part(typed(api.TxDeref, row.Elem, 0, v), p)
}

// placeOf is where the member lies that a TrMember or a TrArrow names.
func (c *checker) placeOf(id int, x api.Tree) api.Place {
	want(c.isRecord(id), api.ErrOperand, x.At)
	p, ok, code := layout.Find(c.types, id, x.Text)
	refuse(code, x.At)
	want(ok, api.ErrName, x.At)
	return p
}

// kept puts a value into a local of its own, so that it has parts.
func (c *checker) kept(v api.Tree, at api.Spot) api.Tree {
	want(c.frame != nil, api.ErrConst, at)
	n := c.newLocal(v.Type, at)
	return typed(api.TxLit, v.Type, n, setTo(typed(api.TxLocal, v.Type, n), v))
}

// literal types a compound literal.
func (c *checker) literal(x api.Tree) api.Tree {
	id := c.typeName(x.Sub[0])
	if c.frame == nil {
		n := c.newGlobal("", id, x.At)
		c.fill(n, x.Sub[1], x.At)
		return typed(api.TxGlobal, c.globals[n].Type, n)
	}
	n := c.newLocal(id, x.At)
	sets := c.sets(n, x.Sub[1], x.At)
	return typed(api.TxLit, c.frame.locals[n], n, sets...)
}

// sizeOfExpr types a sizeof of an expression, of which nothing is kept but its type.
func (c *checker) sizeOfExpr(x api.Tree) api.Tree {
	giveBack := c.mark()
	v := c.expr(x.Sub[0])
	giveBack()
	want(fieldBits(v) == 0, api.ErrOperand, x.At)
	return c.sizeOf(v.Type, x.At)
}

// mark answers what takes the globals and locals back that are made from now on.
func (c *checker) mark() func() {
	globals, locals := len(c.globals), 0
	if c.frame != nil {
		locals = len(c.frame.locals)
	}
	return func() {
		c.globals = c.globals[:globals]
		if c.frame != nil {
			c.frame.locals = c.frame.locals[:locals]
		}
	}
}

// sizeOf is a type's size as a number.
func (c *checker) sizeOf(id int, at api.Spot) api.Tree { return number(c.size(id, at), uintType) }

// offset types an offsetof.
func (c *checker) offset(x api.Tree) api.Tree {
	id := c.typeName(x.Sub[0])
	var hops []api.Hop
	for _, by := range x.Sub[1:] {
		h := api.Hop{Name: by.Text}
		if by.Kind == api.TrAt {
			h.Index = c.constant(by.Sub[0])
		}
		hops = append(hops, h)
	}
	p, code := layout.Walk(c.types, id, hops)
	refuse(code, x.At)
	want(p.Bits == 0, api.ErrOperand, x.At)
	return number(p.Off, uintType)
}

package check

import "mortise/api"

// statement types a statement.
func (c *checker) statement(x api.Tree) api.Tree { return c.statements[x.Kind](x) }

// statementKinds tells for each kind of statements what types it.
func (c *checker) statementKinds() map[api.TreeKind]func(api.Tree) api.Tree {
	return map[api.TreeKind]func(api.Tree) api.Tree{
		api.TsBlock:    c.block,
		api.TsExpr:     func(x api.Tree) api.Tree { return stated(x.Kind, c.valueOrVoid(x.Sub[0])) },
		api.TsNone:     func(x api.Tree) api.Tree { return stated(x.Kind) },
		api.TsIf:       c.choice,
		api.TsWhile:    c.while,
		api.TsDo:       c.do,
		api.TsFor:      c.loop,
		api.TsBreak:    c.leave,
		api.TsContinue: c.leave,
		api.TsReturn:   c.answer,
	}
}

// stated makes a statement.
func stated(k api.TreeKind, sub ...api.Tree) api.Tree { return typed(k, voidType, 0, sub...) }

// block types a block, which is a scope.
func (c *checker) block(x api.Tree) api.Tree {
	c.open()
	var l []api.Tree
	for _, part := range x.Sub {
		if part.Kind == api.TrDecl {
			l = append(l, c.declaration(part)...)
		} else {
			l = append(l, c.statement(part))
		}
	}
	c.close()
	return stated(api.TsBlock, l...)
}

// condition types the condition x of a statement whose spot is at.
func (c *checker) condition(x api.Tree, at api.Spot) api.Tree {
	v := c.value(x)
	want(c.types.Scalar(v.Type), api.ErrOperand, at)
	return v
}

// choice types an if.
func (c *checker) choice(x api.Tree) api.Tree {
	l := []api.Tree{c.condition(x.Sub[0], x.At)}
	for _, branch := range x.Sub[1:] {
		l = append(l, c.statement(branch))
	}
	return stated(x.Kind, l...)
}

// while types a while.
func (c *checker) while(x api.Tree) api.Tree {
	asked := c.condition(x.Sub[0], x.At)
	return stated(x.Kind, asked, c.repeated(x.Sub[1]))
}

// do types a do.
func (c *checker) do(x api.Tree) api.Tree {
	body := c.repeated(x.Sub[0])
	return stated(x.Kind, body, c.condition(x.Sub[1], x.At))
}

// loop types a for, which is a scope with all that belongs to it.
func (c *checker) loop(x api.Tree) api.Tree {
	c.open()
	start, asked, next := c.start(x.Sub[0]), stated(api.TsNone), stated(api.TsNone)
	if x.Sub[1].Kind != api.TsNone {
		asked = c.condition(x.Sub[1], x.At)
	}
	if x.Sub[2].Kind != api.TsNone {
		next = c.valueOrVoid(x.Sub[2])
	}
	body := c.repeated(x.Sub[3])
	c.close()
	return stated(x.Kind, start, asked, next, body)
}

// start types what a for begins with.
func (c *checker) start(x api.Tree) api.Tree {
	if x.Kind == api.TrDecl {
		return stated(api.TsBlock, c.declaration(x)...)
	}
	return c.statement(x)
}

// repeated types the statement of a loop.
func (c *checker) repeated(x api.Tree) api.Tree {
	c.frame.loops++
	body := c.statement(x)
	c.frame.loops--
	return body
}

// leave types a break or a continue.
func (c *checker) leave(x api.Tree) api.Tree {
	want(c.frame.loops > 0, api.ErrLoop, x.At)
	return stated(x.Kind)
}

// answer types a return. No value is taken as void.
func (c *checker) answer(x api.Tree) api.Tree {
	if len(x.Sub) == 0 {
		want(c.frame.result == voidType, api.ErrReturn, x.At)
		return stated(x.Kind)
	}
	v, ok := c.taken(c.value(x.Sub[0]), c.frame.result)
	want(ok, api.ErrReturn, x.At)
	return stated(x.Kind, v)
}

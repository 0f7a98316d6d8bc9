package parse

import "mortise/api"

// block reads a block, which is a scope.
func (r *reader) block() api.Tree {
	x := node(api.TsBlock, r.want("{").At, "")
	r.open()
	for !r.sees("}") {
		x.Sub = append(x.Sub, r.inBlock())
	}
	r.close()
	r.want("}")
	return x
}

// inBlock reads a declaration or a statement.
func (r *reader) inBlock() api.Tree {
	if r.beginsDeclaration() {
		return r.declaration()
	}
	return r.statement()
}

// statement reads a statement.
func (r *reader) statement() api.Tree {
	t := r.look()
	switch spelling(t) {
	case "{":
		return r.block()
	case ";":
		return node(api.TsNone, r.take().At, "")
	case "if":
		return r.choice()
	case "while":
		r.take()
		return node(api.TsWhile, t.At, "", r.asked(), r.statement())
	case "do":
		return r.do()
	case "for":
		return r.loop()
	case "break":
		return r.word(api.TsBreak)
	case "continue":
		return r.word(api.TsContinue)
	case "return":
		return r.answer()
	}
	return r.exprStatement()
}

// exprStatement reads an expression and its semicolon.
func (r *reader) exprStatement() api.Tree {
	x := node(api.TsExpr, r.look().At, "", r.expression())
	r.want(";")
	return x
}

// asked reads an expression in parentheses.
func (r *reader) asked() api.Tree {
	r.want("(")
	x := r.expression()
	r.want(")")
	return x
}

// choice reads an if. An else that stands behind it is its own: all inner ones have been read.
func (r *reader) choice() api.Tree {
	x := node(api.TsIf, r.take().At, "", r.asked(), r.statement())
	if r.accept("else") {
		x.Sub = append(x.Sub, r.statement())
	}
	return x
}

// do reads a do.
func (r *reader) do() api.Tree {
	x := node(api.TsDo, r.take().At, "", r.statement())
	r.want("while")
	x.Sub = append(x.Sub, r.asked())
	r.want(";")
	return x
}

// loop reads a for, which is a scope with all that belongs to it.
func (r *reader) loop() api.Tree {
	x := node(api.TsFor, r.take().At, "")
	r.open()
	r.want("(")
	x.Sub = append(x.Sub, r.start(), r.unless(";"), r.unless(")"), r.statement())
	r.close()
	return x
}

// start reads what a for begins with, and its semicolon.
func (r *reader) start() api.Tree {
	switch {
	case r.beginsDeclaration():
		return r.declaration()
	case r.sees(";"):
		return node(api.TsNone, r.take().At, "")
	}
	return r.exprStatement()
}

// unless reads an expression that may be left out, and the sign that ends it.
func (r *reader) unless(end string) api.Tree {
	x := node(api.TsNone, r.look().At, "")
	if !r.sees(end) {
		x = r.expression()
	}
	r.want(end)
	return x
}

// word reads a statement that is just a keyword.
func (r *reader) word(k api.TreeKind) api.Tree {
	x := node(k, r.take().At, "")
	r.want(";")
	return x
}

// answer reads a return.
func (r *reader) answer() api.Tree {
	x := node(api.TsReturn, r.take().At, "")
	if !r.sees(";") {
		x.Sub = []api.Tree{r.expression()}
	}
	r.want(";")
	return x
}

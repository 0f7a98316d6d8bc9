package tree

import "mortise/api"

// The methods of this file write expressions and initialisers: kinds tells which.

func (w *writer) list(x api.Tree) { w.closed("{", func() { w.commas(x.Sub) }, "}") }

func (w *writer) item(x api.Tree) {
	last := len(x.Sub) - 1
	w.all(x.Sub[:last], commaLevel)
	if last > 0 {
		w.signs("=")
	}
	w.part(x.Sub[last], setLevel)
}

func (w *writer) at(x api.Tree) { w.length(x.Sub) }

// length writes what stands in a designator of an array, or in an array's declarator.
func (w *writer) length(l []api.Tree) {
	w.closed("[", func() { w.all(l, condLevel) }, "]")
}

func (w *writer) dot(x api.Tree) {
	w.signs(".")
	w.name(x.Text)
}

func (w *writer) named(x api.Tree) { w.name(x.Text) }

// number is the token of a TrInt.
func number(x api.Tree) api.Token {
	return api.Token{Kind: api.TokInt, Text: x.Text, Num: x.Num}
}

func (w *writer) number(x api.Tree) { w.put(number(x)) }

func (w *writer) char(x api.Tree) { w.put(api.Token{Kind: api.TokChar, Num: x.Num}) }

func (w *writer) text(x api.Tree) { w.put(api.Token{Kind: api.TokStr, Text: x.Text}) }

func (w *writer) unary(x api.Tree) {
	w.signs(x.Text)
	if isStep(x.Text) {
		w.part(x.Sub[0], unaryLevel)
		return
	}
	w.part(x.Sub[0], castLevel)
}

func (w *writer) post(x api.Tree) {
	w.part(x.Sub[0], postLevel)
	w.signs(x.Text)
}

// between writes two parts with a sign between.
func (w *writer) between(x api.Tree, left int, right int) {
	w.part(x.Sub[0], left)
	w.signs(x.Text)
	w.part(x.Sub[1], right)
}

func (w *writer) binary(x api.Tree) {
	own := levelOf(x.Text)
	w.between(x, own, own+1)
}

func (w *writer) set(x api.Tree) { w.between(x, unaryLevel, setLevel) }

func (w *writer) cond(x api.Tree) {
	w.part(x.Sub[0], orLevel)
	w.closed("?", func() { w.part(x.Sub[1], commaLevel) }, ":")
	w.part(x.Sub[2], condLevel)
}

func (w *writer) call(x api.Tree) {
	w.name(x.Text)
	w.closed("(", func() { w.commas(x.Sub) }, ")")
}

func (w *writer) index(x api.Tree) {
	w.part(x.Sub[0], postLevel)
	w.closed("[", func() { w.part(x.Sub[1], commaLevel) }, "]")
}

func (w *writer) member(x api.Tree) {
	w.part(x.Sub[0], postLevel)
	w.dot(x)
}

func (w *writer) arrow(x api.Tree) {
	w.part(x.Sub[0], postLevel)
	w.signs("->")
	w.name(x.Text)
}

// cast writes a literal, too: the list behind its type never has parentheses.
func (w *writer) cast(x api.Tree) {
	w.closed("(", func() { w.node(x.Sub[0]) }, ")")
	w.part(x.Sub[1], castLevel)
}

func (w *writer) sizeOfExpr(x api.Tree) {
	w.words("sizeof")
	w.part(x.Sub[0], unaryLevel)
}

func (w *writer) sizeOfType(x api.Tree) {
	w.words("sizeof")
	w.closed("(", func() { w.node(x.Sub[0]) }, ")")
}

func (w *writer) offset(x api.Tree) {
	w.words("offsetof")
	w.closed("(", func() {
		w.node(x.Sub[0])
		w.signs(",")
		w.name(x.Sub[1].Text)
		w.all(x.Sub[2:], commaLevel)
	}, ")")
}

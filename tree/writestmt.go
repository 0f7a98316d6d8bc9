package tree

import "mortise/api"

// The methods of this file write statements: kinds tells which.

func (w *writer) block(x api.Tree) {
	w.closed("{", func() { w.all(x.Sub, commaLevel) }, "}")
}

func (w *writer) expr(x api.Tree) {
	w.node(x.Sub[0])
	w.signs(";")
}

func (w *writer) none(x api.Tree) { w.signs(";") }

// head writes a word and what is asked behind it.
func (w *writer) head(word string, asked api.Tree) {
	w.words(word)
	w.closed("(", func() { w.node(asked) }, ")")
}

func (w *writer) choice(x api.Tree) {
	w.head("if", x.Sub[0])
	w.node(x.Sub[1])
	if len(x.Sub) == 3 {
		w.words("else")
		w.node(x.Sub[2])
	}
}

func (w *writer) while(x api.Tree) {
	w.head("while", x.Sub[0])
	w.node(x.Sub[1])
}

func (w *writer) do(x api.Tree) {
	w.words("do")
	w.node(x.Sub[0])
	w.head("while", x.Sub[1])
	w.signs(";")
}

func (w *writer) loop(x api.Tree) {
	w.words("for")
	w.closed("(", func() {
		w.node(x.Sub[0])
		w.unlessNone(x.Sub[1])
		w.signs(";")
		w.unlessNone(x.Sub[2])
	}, ")")
	w.node(x.Sub[3])
}

// unlessNone writes an expression of a TsFor, if there is one.
func (w *writer) unlessNone(x api.Tree) {
	if x.Kind != api.TsNone {
		w.node(x)
	}
}

func (w *writer) leave(x api.Tree) {
	w.words("break")
	w.signs(";")
}

func (w *writer) next(x api.Tree) {
	w.words("continue")
	w.signs(";")
}

func (w *writer) answer(x api.Tree) {
	w.words("return")
	w.all(x.Sub, commaLevel)
	w.signs(";")
}

package tree

import (
	"strings"

	"mortise/api"
)

// The methods of this file write types and declarations: kinds tells which.

func (w *writer) base(x api.Tree) { w.words(strings.Fields(x.Text)...) }

func (w *writer) tag(x api.Tree) {
	switch x.Num {
	case 1:
		w.words("struct")
	case 2:
		w.words("union")
	case 3:
		w.words("enum")
	}
	w.name(x.Text)
	w.all(x.Sub, commaLevel)
}

func (w *writer) body(x api.Tree) {
	w.closed("{", func() { w.inBody(x.Sub) }, "}")
}

// inBody writes what stands within a body.
func (w *writer) inBody(l []api.Tree) {
	if l[0].Kind == api.TrEnum {
		w.commas(l)
		return
	}
	for _, x := range l {
		w.node(x)
		w.signs(";")
	}
}

// round writes a declarator round what inner writes; star tells whether that begins with *. What is deeper in the tree stands further out in the text, so what has been gone through is handed on as a closure.
func (w *writer) round(d api.Tree, star bool, inner func()) {
	switch d.Kind {
	case api.TrHole:
		inner()
	case api.TrPtr:
		w.round(d.Sub[0], true, func() {
			w.signs("*")
			inner()
		})
	default:
		w.round(d.Sub[0], false, func() {
			if star {
				w.closed("(", inner, ")")
			} else {
				inner()
			}
			w.suffix(d)
		})
	}
}

// suffix writes what a TrArray or a TrFn has behind what it is round.
func (w *writer) suffix(d api.Tree) {
	if d.Kind == api.TrArray {
		w.length(d.Sub[1:])
		return
	}
	w.closed("(", func() { w.params(d.Sub[1:]) }, ")")
}

// params writes what a function takes.
func (w *writer) params(l []api.Tree) {
	if len(l) == 0 {
		w.words("void")
	}
	w.commas(l)
}

// declare writes a declarator round a name, or round nothing.
func (w *writer) declare(d api.Tree, name string) {
	w.round(d, false, func() { w.name(name) })
}

// alone writes a declarator that stands in nothing else.
func (w *writer) alone(x api.Tree) { w.declare(x, "") }

// param writes a type's name, too, which has none.
func (w *writer) param(x api.Tree) {
	w.node(x.Sub[0])
	w.declare(x.Sub[1], x.Text)
}

// storage writes the word that a declaration may begin with.
func (w *writer) storage(n int) {
	switch n {
	case 1:
		w.words("typedef")
	case 2:
		w.words("static")
	}
}

func (w *writer) decl(x api.Tree) {
	w.storage(x.Num)
	w.fields(x)
	w.signs(";")
}

func (w *writer) variable(x api.Tree) {
	w.declare(x.Sub[0], x.Text)
	w.behind("=", x.Sub[1:], setLevel)
}

func (w *writer) fields(x api.Tree) {
	w.node(x.Sub[0])
	w.commas(x.Sub[1:])
}

func (w *writer) field(x api.Tree) {
	w.declare(x.Sub[0], x.Text)
	w.behind(":", x.Sub[1:], condLevel)
}

func (w *writer) enum(x api.Tree) {
	w.name(x.Text)
	w.behind("=", x.Sub, condLevel)
}

func (w *writer) function(x api.Tree) {
	w.storage(x.Num)
	w.param(x)
	w.node(x.Sub[2])
}

func (w *writer) unit(x api.Tree) { w.all(x.Sub, commaLevel) }

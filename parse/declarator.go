package parse

import "mortise/api"

// manner is whether a declarator has a name.
type manner int

const (
	named    manner = iota
	nameless        // an abstract
	either          // a param's
)

// declarator is what was read of one: its name's token (the zero one, if it has none); its TrPtrs, TrArrays and TrFns from the name outwards, the first part of each still missing; and the scope of the params right behind the name, if there are any.
type declarator struct {
	name   api.Token
	layers []api.Tree
	params *scope
}

// hole is what the specifier says.
func hole() api.Tree { return api.Tree{Kind: api.TrHole} }

// tree puts the layers into each other.
func (d *declarator) tree() api.Tree {
	x := hole()
	for i := len(d.layers) - 1; i >= 0; i-- {
		outer := d.layers[i]
		outer.Sub[0] = x
		x = outer
	}
	return x
}

// isFunction tells whether what is declared is a function.
func (d *declarator) isFunction() bool { return d.params != nil }

// declarator reads a declarator.
func (r *reader) declarator(m manner) declarator {
	var d declarator
	r.round(&d, m)
	return d
}

// round reads a declarator, or what is in parentheses within one. What stands behind the name is nearer to it than the stars are.
func (r *reader) round(d *declarator, m manner) {
	stars := 0
	for r.accept("*") {
		stars++
	}
	r.middle(d, m)
	for r.sees("[", "(") {
		r.suffix(d)
	}
	for range stars {
		d.layers = append(d.layers, node(api.TrPtr, api.Spot{}, "", api.Tree{}))
	}
}

// middle reads what the stars, brackets and params of a declarator stand round.
func (r *reader) middle(d *declarator, m manner) {
	switch {
	case m != nameless && r.look().Kind == api.TokName:
		d.name = r.take()
	case r.sees("(") && (m == named || !r.beginsParams(r.ahead(1))):
		r.take()
		r.round(d, m)
		r.want(")")
	case m == named:
		r.fail()
	}
}

// beginsParams tells whether, where a name may be left out, the parenthesis ahead of a token is one of params.
func (r *reader) beginsParams(t api.Token) bool {
	return among(t, ")") > 0 || r.beginsType(t)
}

// suffix reads brackets or params.
func (r *reader) suffix(d *declarator) {
	if r.sees("[") {
		d.layers = append(d.layers, r.length())
		return
	}
	r.open()
	x := r.params()
	inner := r.close()
	if len(d.layers) == 0 {
		d.params = inner
	}
	d.layers = append(d.layers, x)
}

// length reads brackets and what an array's length is.
func (r *reader) length() api.Tree {
	x := node(api.TrArray, api.Spot{}, "", api.Tree{})
	r.want("[")
	if !r.sees("]") {
		x.Sub = append(x.Sub, r.conditional())
	}
	r.want("]")
	return x
}

// params reads the params of a declarator.
func (r *reader) params() api.Tree {
	x := node(api.TrFn, api.Spot{}, "", api.Tree{})
	r.want("(")
	switch {
	case r.sees(")"):
	case r.sees("void") && among(r.ahead(1), ")") > 0:
		r.take()
	default:
		x.Sub = append(x.Sub, r.param())
		for r.accept(",") {
			x.Sub = append(x.Sub, r.param())
		}
	}
	r.want(")")
	return x
}

// param reads one param, and declares its name, if it has one.
func (r *reader) param() api.Tree {
	spec := r.specifiers()
	at := r.look().At
	d := r.declarator(either)
	if d.name.Kind == api.TokName {
		at = d.name.At
		r.declare(d.name.Text, plain)
	}
	return node(api.TrParam, at, d.name.Text, spec, d.tree())
}

// typeName reads a type's name.
func (r *reader) typeName() api.Tree {
	at := r.look().At
	spec := r.specifiers()
	d := r.declarator(nameless)
	return node(api.TrType, at, "", spec, d.tree())
}

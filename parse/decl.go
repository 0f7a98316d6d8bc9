package parse

import "mortise/api"

// unit reads a unit.
func (r *reader) unit() api.Tree {
	x := node(api.TrUnit, r.look().At, "")
	for r.look().Kind != api.TokEnd {
		x.Sub = append(x.Sub, r.external())
	}
	return x
}

// external reads a declaration or a function: they are told apart behind the first declarator.
func (r *reader) external() api.Tree {
	x := r.head()
	if r.accept(";") {
		return x
	}
	d := r.declared(x.Num)
	if d.isFunction() && x.Num != typedefs && r.sees("{") {
		return r.function(x, d)
	}
	return r.variables(x, d)
}

// declaration reads a declaration.
func (r *reader) declaration() api.Tree {
	x := r.head()
	if r.accept(";") {
		return x
	}
	return r.variables(x, r.declared(x.Num))
}

// head reads what a declaration begins with.
func (r *reader) head() api.Tree {
	at := r.look().At
	spec, storage := r.specs(true)
	x := node(api.TrDecl, at, "", spec)
	x.Num = storage
	return x
}

// declared reads a declarator with a name, and declares that right behind it.
func (r *reader) declared(storage int) declarator {
	d := r.declarator(named)
	if storage == typedefs {
		r.declare(d.name.Text, alias)
	} else {
		r.declare(d.name.Text, plain)
	}
	return d
}

// variables reads a declaration from behind its first declarator on.
func (r *reader) variables(x api.Tree, d declarator) api.Tree {
	x.Sub = append(x.Sub, r.variable(d))
	for r.accept(",") {
		x.Sub = append(x.Sub, r.variable(r.declared(x.Num)))
	}
	r.want(";")
	return x
}

// variable reads the initialiser that may stand behind a declarator.
func (r *reader) variable(d declarator) api.Tree {
	x := node(api.TrVar, d.name.At, d.name.Text, d.tree())
	if r.accept("=") {
		x.Sub = append(x.Sub, r.initialiser())
	}
	return x
}

// function reads the block of a function, whose specifier is that of a declaration, in the scope of the function's own params.
func (r *reader) function(decl api.Tree, d declarator) api.Tree {
	r.names = d.params
	x := node(api.TrFunc, d.name.At, d.name.Text, decl.Sub[0], d.tree(), r.block())
	r.close()
	x.Num = decl.Num
	return x
}

// initialiser reads an initialiser.
func (r *reader) initialiser() api.Tree {
	if r.sees("{") {
		return r.list()
	}
	return r.assignment()
}

// list reads an initialiser in braces, with a comma behind its last item or none.
func (r *reader) list() api.Tree {
	x := node(api.TrList, r.want("{").At, "", r.item())
	for r.accept(",") && !r.sees("}") {
		x.Sub = append(x.Sub, r.item())
	}
	r.want("}")
	return x
}

// item reads an item of a list.
func (r *reader) item() api.Tree {
	x := node(api.TrItem, r.look().At, "", r.places()...)
	if len(x.Sub) > 0 {
		r.want("=")
	}
	x.Sub = append(x.Sub, r.initialiser())
	return x
}

// places reads as many designators as stand here.
func (r *reader) places() []api.Tree {
	var list []api.Tree
	for r.sees("[", ".") {
		list = append(list, r.place())
	}
	return list
}

// place reads one designator.
func (r *reader) place() api.Tree {
	sign := r.take()
	if sign.Text == "." {
		return node(api.TrDot, sign.At, r.wantName().Text)
	}
	x := node(api.TrAt, sign.At, "", r.conditional())
	r.want("]")
	return x
}

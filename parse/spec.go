package parse

import "mortise/api"

// words is a set of the words that make basic types.
type words int

const (
	void words = 1 << iota
	boolean
	char
	short
	integer
	long
	signed
	unsigned
	alone // no word: a tag or an ALIAS, to which none can be added
)

// wordOf is the set of just this word, or the empty one of what is none.
func wordOf(t api.Token) words {
	return 1 << among(t, "void", "_Bool", "char", "short", "int", "long", "signed", "unsigned") >> 1
}

// basic is the basic type that words make, as layer 4 writes it, or nothing.
func basic(w words) string {
	switch w {
	case void:
		return "void"
	case boolean:
		return "_Bool"
	case char:
		return "char"
	case signed | char:
		return "signed char"
	case unsigned | char:
		return "unsigned char"
	case short, short | integer, signed | short, signed | short | integer:
		return "short"
	case unsigned | short, unsigned | short | integer:
		return "unsigned short"
	case integer, signed, signed | integer:
		return "int"
	case unsigned, unsigned | integer:
		return "unsigned int"
	case long, long | integer, signed | long, signed | long | integer:
		return "long"
	case unsigned | long, unsigned | long | integer:
		return "unsigned long"
	}
	return ""
}

// Nums of nodes that are asked for: that of a declaration with typedef, and that of an enum.
const (
	typedefs = 1
	enums    = 3
)

// storageOf is the Num of a declaration with this word, or 0.
func storageOf(t api.Token) int { return among(t, "typedef", "static") }

// tagOf is the Num of a TrTag with this word, or 0.
func tagOf(t api.Token) int { return among(t, "struct", "union", "enum") }

// beginsType tells whether a specifier begins with a token.
func (r *reader) beginsType(t api.Token) bool {
	return wordOf(t) != 0 || tagOf(t) != 0 || r.isAlias(t)
}

// beginsDeclaration tells whether a declaration begins here.
func (r *reader) beginsDeclaration() bool {
	return storageOf(r.look()) != 0 || r.beginsType(r.look())
}

// specs reads specifiers, with a word of storage among them, if one may stand there. It stops at what cannot be added: no keyword ever goes on behind specifiers.
func (r *reader) specs(mayStore bool) (spec api.Tree, storage int) {
	made := words(0)
	for {
		t := r.look()
		word := wordOf(t)
		switch {
		case mayStore && storage == 0 && storageOf(t) != 0:
			storage = storageOf(r.take())
		case word&^made != 0 && basic(made|word) != "":
			r.take()
			if made == 0 {
				spec = node(api.TrBase, t.At, "")
			}
			made |= word
			spec.Text = basic(made)
		case made == 0 && r.isAlias(t):
			r.take()
			spec, made = node(api.TrAlias, t.At, t.Text), alone
		case made == 0 && tagOf(t) != 0:
			spec, made = r.tag(), alone
		case made == 0:
			r.fail()
		default:
			return spec, storage
		}
	}
}

// specifiers reads specifiers without a word of storage.
func (r *reader) specifiers() api.Tree {
	spec, _ := r.specs(false)
	return spec
}

// tag reads a struct, a union or an enum.
func (r *reader) tag() api.Tree {
	word := r.take()
	x := node(api.TrTag, word.At, "")
	x.Num = tagOf(word)
	if r.look().Kind == api.TokName {
		x.Text = r.take().Text
	}
	if x.Text == "" || r.sees("{") {
		x.Sub = []api.Tree{r.body(x.Num)}
	}
	return x
}

// body reads what a tag of this Num has in braces.
func (r *reader) body(num int) api.Tree {
	x := node(api.TrBody, r.want("{").At, "")
	if num == enums {
		x.Sub = r.enums()
	} else {
		x.Sub = r.members()
	}
	r.want("}")
	return x
}

// enums reads an enum's names, with a comma behind the last one or none.
func (r *reader) enums() []api.Tree {
	list := []api.Tree{r.enum()}
	for r.accept(",") && !r.sees("}") {
		list = append(list, r.enum())
	}
	return list
}

// enum reads a name of an enum. It is declared behind its value, which may have the name for something else.
func (r *reader) enum() api.Tree {
	name := r.wantName()
	x := node(api.TrEnum, name.At, name.Text)
	if r.accept("=") {
		x.Sub = []api.Tree{r.conditional()}
	}
	r.declare(name.Text, plain)
	return x
}

// members reads what a struct or a union has.
func (r *reader) members() []api.Tree {
	list := []api.Tree{r.fields()}
	for !r.sees("}") {
		list = append(list, r.fields())
	}
	return list
}

// fields reads members that share their specifiers.
func (r *reader) fields() api.Tree {
	at := r.look().At
	x := node(api.TrFields, at, "", r.specifiers(), r.field())
	for r.accept(",") {
		x.Sub = append(x.Sub, r.field())
	}
	r.want(";")
	return x
}

// field reads a member. Its name is declared in no scope: it is asked for behind . and -> alone, where any name may stand.
func (r *reader) field() api.Tree {
	x := node(api.TrField, r.look().At, "", hole())
	if !r.sees(":") {
		d := r.declarator(named)
		x = node(api.TrField, d.name.At, d.name.Text, d.tree())
	}
	if r.accept(":") {
		x.Sub = append(x.Sub, r.conditional())
	}
	return x
}

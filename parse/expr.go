package parse

import (
	"strings"

	"mortise/api"
)

// expression reads assignments with commas between.
func (r *reader) expression() api.Tree {
	x := r.assignment()
	for r.sees(",") {
		sign := r.take()
		x = node(api.TrBi, sign.At, sign.Text, x, r.assignment())
	}
	return x
}

// assignment reads an assignment.
func (r *reader) assignment() api.Tree {
	x, unary := r.operand()
	if unary && r.sees("=", "*=", "/=", "%=", "+=", "-=", "<<=", ">>=", "&=", "^=", "|=") {
		sign := r.take()
		return node(api.TrSet, sign.At, sign.Text, x, r.assignment())
	}
	return r.onward(x)
}

// conditional reads a conditional.
func (r *reader) conditional() api.Tree { return r.onward(r.cast()) }

// onward reads a conditional from behind its first cast on.
func (r *reader) onward(first api.Tree) api.Tree {
	x := r.binary(first)
	if !r.sees("?") {
		return x
	}
	sign := r.take()
	yes := r.expression()
	r.want(":")
	return node(api.TrCond, sign.At, "", x, yes, r.conditional())
}

// leastLevel is the level of the signs that hold their operands least.
const leastLevel = 3

// binary reads a binary expression from behind its first cast on.
func (r *reader) binary(first api.Tree) api.Tree {
	var from func(x api.Tree, least int) api.Tree
	from = func(x api.Tree, least int) api.Tree {
		for level(r.look()) >= least {
			sign := r.take()
			right := from(r.cast(), level(sign)+1)
			x = node(api.TrBi, sign.At, sign.Text, x, right)
		}
		return x
	}
	return from(first, leastLevel)
}

// level is the level that layer 4 gives to a sign between two casts, or 0 of what is none.
func level(t api.Token) int {
	switch spelling(t) {
	case "||":
		return leastLevel
	case "&&":
		return 4
	case "|":
		return 5
	case "^":
		return 6
	case "&":
		return 7
	case "==", "!=":
		return 8
	case "<", ">", "<=", ">=":
		return 9
	case "<<", ">>":
		return 10
	case "+", "-":
		return 11
	case "*", "/", "%":
		return 12
	}
	return 0
}

// cast reads a cast.
func (r *reader) cast() api.Tree {
	x, _ := r.operand()
	return x
}

// operand reads a cast, and tells whether it is a unary, too.
func (r *reader) operand() (api.Tree, bool) {
	if !r.beginsTypeInside() {
		return r.unary(), true
	}
	at := r.look().At
	t := r.typeInside()
	if r.sees("{") {
		return r.literal(at, t), true
	}
	return node(api.TrCast, at, "", t, r.cast()), false
}

// beginsTypeInside tells whether a type in parentheses begins here.
func (r *reader) beginsTypeInside() bool { return r.sees("(") && r.beginsType(r.ahead(1)) }

// typeInside reads a type in parentheses.
func (r *reader) typeInside() api.Tree {
	r.want("(")
	x := r.typeName()
	r.want(")")
	return x
}

// literal reads a literal from behind its type on, and what a postfix may have behind it.
func (r *reader) literal(at api.Spot, t api.Tree) api.Tree {
	return r.postfix(node(api.TrLit, at, "", t, r.list()))
}

// unary reads a unary. A type in parentheses must be that of a literal here.
func (r *reader) unary() api.Tree {
	t := r.look()
	switch {
	case r.sees("++", "--"):
		r.take()
		return node(api.TrUn, t.At, t.Text, r.unary())
	case r.sees("+", "-", "~", "!", "*", "&"):
		r.take()
		return node(api.TrUn, t.At, t.Text, r.cast())
	case r.sees("sizeof"):
		return r.sizeOf()
	case r.beginsTypeInside():
		return r.literal(t.At, r.typeInside())
	}
	return r.postfix(r.primary())
}

// sizeOf reads a sizeof, of a type or of a unary.
func (r *reader) sizeOf() api.Tree {
	word := r.take()
	if !r.beginsTypeInside() {
		return node(api.TrSizeE, word.At, "", r.unary())
	}
	at := r.look().At
	t := r.typeInside()
	if r.sees("{") {
		return node(api.TrSizeE, word.At, "", r.literal(at, t))
	}
	return node(api.TrSizeT, word.At, "", t)
}

// postfix reads what a postfix has behind its first part.
func (r *reader) postfix(x api.Tree) api.Tree {
	for {
		sign := r.look()
		switch spelling(sign) {
		case "[":
			r.take()
			x = node(api.TrIndex, sign.At, "", x, r.expression())
			r.want("]")
		case ".":
			r.take()
			x = node(api.TrMember, sign.At, r.wantName().Text, x)
		case "->":
			r.take()
			x = node(api.TrArrow, sign.At, r.wantName().Text, x)
		case "++", "--":
			r.take()
			x = node(api.TrPost, sign.At, sign.Text, x)
		default:
			return x
		}
	}
}

// primary reads a primary.
func (r *reader) primary() api.Tree {
	t := r.look()
	switch {
	case r.isPlain(t):
		return r.name()
	case t.Kind == api.TokInt:
		return r.number(api.TrInt)
	case t.Kind == api.TokChar:
		return r.number(api.TrChr)
	case t.Kind == api.TokStr:
		return r.text()
	case r.sees("offsetof"):
		return r.offset()
	case r.callsInside():
		r.take()
		name := r.take()
		r.want(")")
		return r.call(name)
	}
	return r.asked()
}

// callsInside tells whether a call begins here whose name is in parentheses.
func (r *reader) callsInside() bool {
	return r.sees("(") && r.isPlain(r.ahead(1)) && among(r.ahead(2), ")") > 0 && among(r.ahead(3), "(") > 0
}

// name reads a name, or a call of it.
func (r *reader) name() api.Tree {
	name := r.take()
	if r.sees("(") {
		return r.call(name)
	}
	return node(api.TrName, name.At, name.Text)
}

// call reads the arguments of a call.
func (r *reader) call(name api.Token) api.Tree {
	x := node(api.TrCall, name.At, name.Text)
	r.want("(")
	if !r.sees(")") {
		x.Sub = append(x.Sub, r.assignment())
		for r.accept(",") {
			x.Sub = append(x.Sub, r.assignment())
		}
	}
	r.want(")")
	return x
}

// number reads a number or a character.
func (r *reader) number(k api.TreeKind) api.Tree {
	t := r.take()
	x := node(k, t.At, t.Text)
	x.Num = t.Num
	return x
}

// text reads strings, which are one.
func (r *reader) text() api.Tree {
	at := r.look().At
	var all strings.Builder
	for r.look().Kind == api.TokStr {
		all.WriteString(r.take().Text)
	}
	return node(api.TrStr, at, all.String())
}

// offset reads an offsetof.
func (r *reader) offset() api.Tree {
	word := r.take()
	r.want("(")
	t := r.typeName()
	r.want(",")
	name := r.wantName()
	x := node(api.TrOffset, word.At, "", t, node(api.TrDot, name.At, name.Text))
	x.Sub = append(x.Sub, r.places()...)
	r.want(")")
	return x
}

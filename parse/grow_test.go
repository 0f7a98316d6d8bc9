package parse

import (
	"math/rand"

	"mortise/api"
)

// grower makes trees by chance that a text can have, in which T and U always stand for types and all other names never do.
type grower struct{ *rand.Rand }

// pick is one of a list.
func pick[T any](r *rand.Rand, l ...T) T { return l[r.Intn(len(l))] }

func (g grower) plain() string { return pick(g.Rand, "a", "b", "x", "f", "_9") }
func (g grower) alias() string { return pick(g.Rand, aliasesOf...) }

// any is a name that is declared nowhere: a tag's, a member's.
func (g grower) any() string { return pick(g.Rand, g.plain(), g.alias()) }

// tr makes a node.
func tr(k api.TreeKind, text string, num int, sub ...api.Tree) api.Tree {
	return api.Tree{Kind: k, Text: text, Num: num, Sub: sub}
}

// some are from least to most parts.
func (g grower) some(least int, most int, one func() api.Tree) []api.Tree {
	var l []api.Tree
	for range least + g.Intn(most-least+1) {
		l = append(l, one())
	}
	return l
}

// leaf is an expression without parts.
func (g grower) leaf() api.Tree {
	switch g.Intn(6) {
	case 0:
		return tr(api.TrInt, pick(g.Rand, "int", "long", "unsigned int", "unsigned long"), pick(g.Rand, 0, 7, 8, 2147483647))
	case 1:
		return tr(api.TrChr, "", g.Intn(256)-128)
	case 2:
		b := make([]byte, g.Intn(5))
		g.Read(b)
		return tr(api.TrStr, string(b), 0)
	case 3:
		return tr(api.TrCall, g.plain(), 0)
	}
	return tr(api.TrName, g.plain(), 0)
}

// expr is an expression of at most n levels more.
func (g grower) expr(n int) api.Tree {
	if n <= 0 || g.Intn(6) == 0 {
		return g.leaf()
	}
	e := func() api.Tree { return g.expr(n - 1) }
	switch g.Intn(13) {
	case 0:
		return tr(api.TrUn, pick(g.Rand, "+", "-", "~", "!", "*", "&", "++", "--"), 0, e())
	case 1:
		return tr(api.TrPost, pick(g.Rand, "++", "--"), 0, e())
	case 2, 3:
		return tr(api.TrBi, pick(g.Rand, "*", "/", "%", "+", "-", "<<", ">>", "<", ">", "<=", ">=", "==", "!=", "&", "^", "|", "&&", "||", ","), 0, e(), e())
	case 4:
		return tr(api.TrSet, pick(g.Rand, "=", "*=", "/=", "%=", "+=", "-=", "<<=", ">>=", "&=", "^=", "|="), 0, e(), e())
	case 5:
		return tr(api.TrCond, "", 0, e(), e(), e())
	case 6:
		return tr(api.TrCall, g.plain(), 0, g.some(0, 3, e)...)
	case 7:
		return tr(api.TrIndex, "", 0, e(), e())
	case 8:
		return tr(pick(g.Rand, api.TrMember, api.TrArrow), g.any(), 0, e())
	case 9:
		return tr(api.TrCast, "", 0, g.typeOf(n-1), e())
	case 10:
		return pick(g.Rand, tr(api.TrSizeE, "", 0, e()), tr(api.TrSizeT, "", 0, g.typeOf(n-1)))
	case 11:
		first := []api.Tree{g.typeOf(n - 1), tr(api.TrDot, g.any(), 0)}
		return tr(api.TrOffset, "", 0, append(first, g.some(0, 3, func() api.Tree { return g.place(n - 1) })...)...)
	}
	return tr(api.TrLit, "", 0, g.typeOf(n-1), g.list(n-1))
}

// place is a designator.
func (g grower) place(n int) api.Tree {
	if g.Intn(2) == 0 {
		return tr(api.TrDot, g.any(), 0)
	}
	return tr(api.TrAt, "", 0, g.expr(n-1))
}

// list is an initialiser in braces.
func (g grower) list(n int) api.Tree {
	return tr(api.TrList, "", 0, g.some(1, 3, func() api.Tree {
		places := g.some(0, pick(g.Rand, 0, 3), func() api.Tree { return g.place(n - 1) })
		return tr(api.TrItem, "", 0, append(places, g.initial(n-1))...)
	})...)
}

// initial is an initialiser.
func (g grower) initial(n int) api.Tree {
	if n > 0 && g.Intn(3) == 0 {
		return g.list(n - 1)
	}
	return g.expr(n)
}

// typeOf is a type's name.
func (g grower) typeOf(n int) api.Tree {
	return tr(api.TrType, "", 0, g.spec(n-1), g.declarator(n-1))
}

// spec is a specifier.
func (g grower) spec(n int) api.Tree {
	switch g.Intn(4) {
	case 0:
		return tr(api.TrAlias, g.alias(), 0)
	case 1:
		return g.tag(n)
	}
	return tr(api.TrBase, pick(g.Rand, "void", "_Bool", "char", "signed char", "unsigned char", "short", "unsigned short", "int", "unsigned int", "long", "unsigned long"), 0)
}

// tag is a struct, a union or an enum.
func (g grower) tag(n int) api.Tree {
	x := tr(api.TrTag, g.any(), 1+g.Intn(3))
	if n <= 0 || g.Intn(3) == 0 {
		return x
	}
	x.Text = pick(g.Rand, x.Text, "")
	one := func() api.Tree {
		return tr(api.TrFields, "", 0, append([]api.Tree{g.spec(n - 1)}, g.some(1, 3, func() api.Tree { return g.field(n - 1) })...)...)
	}
	if x.Num == 3 {
		one = func() api.Tree {
			return tr(api.TrEnum, g.plain(), 0, g.some(0, 1, func() api.Tree { return g.expr(n - 1) })...)
		}
	}
	x.Sub = []api.Tree{tr(api.TrBody, "", 0, g.some(1, 3, one)...)}
	return x
}

// field is a member.
func (g grower) field(n int) api.Tree {
	if g.Intn(4) == 0 {
		return tr(api.TrField, "", 0, tr(api.TrHole, "", 0), g.expr(n))
	}
	return tr(api.TrField, g.any(), 0, append([]api.Tree{g.declarator(n)}, g.some(0, 1, func() api.Tree { return g.expr(n - 1) })...)...)
}

// declarator is a declarator.
func (g grower) declarator(n int) api.Tree {
	if n <= 0 {
		return tr(api.TrHole, "", 0)
	}
	inner := g.declarator(n - 1 - g.Intn(2))
	switch g.Intn(4) {
	case 0:
		return inner
	case 1:
		return tr(api.TrPtr, "", 0, inner)
	case 2:
		return tr(api.TrArray, "", 0, append([]api.Tree{inner}, g.some(0, 1, func() api.Tree { return g.expr(n - 1) })...)...)
	}
	return g.takes(n, inner)
}

// takes is a function's declarator round another one. A lone void is no param.
func (g grower) takes(n int, inner api.Tree) api.Tree {
	params := g.some(0, 3, func() api.Tree {
		return tr(api.TrParam, pick(g.Rand, g.plain(), ""), 0, g.spec(n-1), g.declarator(n-1))
	})
	if len(params) == 1 && params[0].Sub[0].Text == "void" && params[0].Sub[1].Kind == api.TrHole {
		params[0].Text = "v"
	}
	return tr(api.TrFn, "", 0, append([]api.Tree{inner}, params...)...)
}

// decl is a declaration.
func (g grower) decl(n int) api.Tree {
	num := g.Intn(3)
	return tr(api.TrDecl, "", num, append([]api.Tree{g.spec(n - 1)}, g.some(0, 3, func() api.Tree {
		name := g.plain()
		if num == 1 {
			name = g.alias()
		}
		return tr(api.TrVar, name, 0, append([]api.Tree{g.declarator(n - 1)}, g.some(0, 1, func() api.Tree { return g.initial(n - 1) })...)...)
	})...)...)
}

// block is a block.
func (g grower) block(n int) api.Tree {
	return tr(api.TsBlock, "", 0, g.some(0, 4, func() api.Tree {
		if g.Intn(3) == 0 {
			return g.decl(n - 1)
		}
		return g.statement(n - 1)
	})...)
}

// statement is a statement.
func (g grower) statement(n int) api.Tree {
	if n <= 0 {
		return tr(pick(g.Rand, api.TsNone, api.TsBreak, api.TsContinue, api.TsReturn), "", 0)
	}
	e, c := func() api.Tree { return g.expr(n - 1) }, func() api.Tree { return g.statement(n - 1) }
	switch g.Intn(8) {
	case 0:
		return g.block(n - 1)
	case 1:
		return tr(api.TsReturn, "", 0, e())
	case 2:
		return tr(api.TsIf, "", 0, e(), c())
	case 3:
		return tr(api.TsIf, "", 0, e(), g.shut(c()), c())
	case 4:
		return tr(api.TsWhile, "", 0, e(), c())
	case 5:
		return tr(api.TsDo, "", 0, c(), e())
	case 6:
		none := tr(api.TsNone, "", 0)
		return tr(api.TsFor, "", 0, pick(g.Rand, g.decl(n-1), none, tr(api.TsExpr, "", 0, e())), pick(g.Rand, e(), none), pick(g.Rand, e(), none), c())
	}
	return tr(api.TsExpr, "", 0, e())
}

// shut is a statement behind which an else is no inner if's.
func (g grower) shut(x api.Tree) api.Tree {
	if x.Kind == api.TsIf || x.Kind == api.TsWhile || x.Kind == api.TsFor {
		return tr(api.TsBlock, "", 0, x)
	}
	return x
}

// unit is a unit, with T and U declared ahead of all else.
func (g grower) unit(n int) api.Tree {
	hole := tr(api.TrHole, "", 0)
	first := tr(api.TrDecl, "", 1, tr(api.TrBase, "int", 0), tr(api.TrVar, "T", 0, hole), tr(api.TrVar, "U", 0, hole))
	return tr(api.TrUnit, "", 0, append([]api.Tree{first}, g.some(0, 3, func() api.Tree {
		if g.Intn(2) == 0 {
			return g.decl(n)
		}
		return tr(api.TrFunc, g.plain(), 2*g.Intn(2), g.spec(n-1), g.takes(n-1, g.declarator(n-2)), g.block(n))
	})...)...)
}

// of is a tree of what one of the three calls reads.
func (g grower) of(name string, n int) api.Tree {
	switch name {
	case "Unit":
		return g.unit(n)
	case "Type":
		return g.typeOf(n)
	}
	return g.expr(n)
}

package tree

import (
	"slices"
	"strconv"
	"strings"
	"testing"

	"mortise/api"
	"mortise/token"
)

// ownLevel is an expression's level, told once more.
func ownLevel(x api.Tree) int {
	levels := map[api.TreeKind]int{api.TrSet: 1, api.TrCond: 2, api.TrCast: 13, api.TrUn: 14, api.TrSizeE: 14, api.TrSizeT: 14, api.TrName: 16, api.TrInt: 16, api.TrChr: 16, api.TrStr: 16}
	if x.Kind == api.TrBi {
		return signLevels[x.Text]
	}
	if n, ok := levels[x.Kind]; ok {
		return n
	}
	return 15
}

// forms are how kinds are written that have the same parts always: # is a part and the level its place wants, $ the Text.
var forms = map[api.TreeKind]string{
	api.TrAt: "[ #2 ]", api.TrDot: ". $", api.TrName: "$", api.TrAlias: "$", api.TrBase: "$", api.TrPost: "#15 $", api.TrSet: "#14 $ #1", api.TrCond: "#3 ? #0 : #2", api.TrIndex: "#15 [ #0 ]",
	api.TrMember: "#15 . $", api.TrArrow: "#15 -> $", api.TrCast: "( #0 ) #13", api.TrSizeE: "sizeof #14", api.TrSizeT: "sizeof ( #0 )", api.TrLit: "( #0 ) #0",
	api.TsExpr: "#0 ;", api.TsNone: ";", api.TsBreak: "break ;", api.TsContinue: "continue ;", api.TsWhile: "while ( #0 ) #0", api.TsDo: "do #0 while ( #0 ) ;",
}

// spell is the text of a right tree, told once more: by texts, and with all the copies that the chapter's words make.
func spell(x api.Tree) string {
	switch f, ok := forms[x.Kind]; {
	case ok:
		return fill(f, x)
	case x.Kind == api.TrBi:
		n := signLevels[x.Text]
		return fill("#"+strconv.Itoa(n)+" $ #"+strconv.Itoa(n+1), x)
	case x.Kind == api.TrUn && len(x.Text) == 2:
		return fill("$ #14", x)
	case x.Kind == api.TrUn:
		return fill("$ #13", x)
	case x.Kind == api.TrInt:
		return strconv.Itoa(x.Num) + map[string]string{"int": "", "long": "L", "unsigned int": "U", "unsigned long": "UL"}[x.Text]
	case x.Kind == api.TrChr:
		s, _ := token.Write(api.Token{Kind: api.TokChar, Num: x.Num})
		return s
	case x.Kind == api.TrStr:
		s, _ := token.Write(api.Token{Kind: api.TokStr, Text: x.Text})
		return s
	case x.Kind >= api.TsBlock:
		return spellStatement(x)
	case x.Kind >= api.TrBase:
		return spellDecl(x)
	}
	return spellRest(x)
}

// fill puts a node's parts and its Text into a form.
func fill(form string, x api.Tree) string {
	var out []string
	next := 0
	for _, f := range strings.Fields(form) {
		switch f[0] {
		case '#':
			wants, _ := strconv.Atoi(f[1:])
			out = append(out, within(x.Sub[next], wants))
			next++
		case '$':
			out = append(out, x.Text)
		default:
			out = append(out, f)
		}
	}
	return glue(out...)
}

// within is the text of a part.
func within(x api.Tree, wants int) string {
	if ownLevel(x) < wants {
		return "( " + spell(x) + " )"
	}
	return spell(x)
}

// glue puts texts behind each other with one blank between; what is empty is nothing.
func glue(l ...string) string {
	return strings.Join(slices.DeleteFunc(slices.Clone(l), func(s string) bool { return s == "" }), " ")
}

// each is the texts of parts with a text between.
func each(l []api.Tree, wants int, between string) string {
	var out []string
	for i, x := range l {
		if i > 0 {
			out = append(out, between)
		}
		out = append(out, within(x, wants))
	}
	return glue(out...)
}

// spellRest is spell of expressions and initialisers whose parts may be many.
func spellRest(x api.Tree) string {
	last := len(x.Sub) - 1
	switch x.Kind {
	case api.TrList:
		return glue("{", each(x.Sub, 0, ","), "}")
	case api.TrItem:
		if last == 0 {
			return within(x.Sub[0], 1)
		}
		return glue(each(x.Sub[:last], 0, ""), "=", within(x.Sub[last], 1))
	case api.TrCall:
		return glue(x.Text, "(", each(x.Sub, 1, ","), ")")
	}
	return glue("offsetof (", spell(x.Sub[0]), ",", strings.TrimPrefix(each(x.Sub[1:], 0, ""), ". "), ")")
}

// roundText is a declarator round a text.
func roundText(d api.Tree, w string) string {
	inner := w
	if strings.HasPrefix(w, "*") {
		inner = "( " + w + " )"
	}
	switch d.Kind {
	case api.TrPtr:
		return roundText(d.Sub[0], glue("*", w))
	case api.TrArray:
		return roundText(d.Sub[0], glue(inner, "[", each(d.Sub[1:], 2, ""), "]"))
	case api.TrFn:
		if len(d.Sub) == 1 {
			return roundText(d.Sub[0], glue(inner, "( void )"))
		}
		return roundText(d.Sub[0], glue(inner, "(", each(d.Sub[1:], 0, ","), ")"))
	}
	return w
}

// spellDecl is spell of types and declarations.
func spellDecl(x api.Tree) string {
	behind := func(sign string, l []api.Tree, wants int) string {
		if len(l) == 0 {
			return ""
		}
		return glue(sign, within(l[0], wants))
	}
	storage := []string{"", "typedef", "static", ""}[x.Num]
	switch x.Kind {
	case api.TrTag:
		return glue([]string{"", "struct", "union", "enum"}[x.Num], x.Text, each(x.Sub, 0, ""))
	case api.TrBody:
		if x.Sub[0].Kind == api.TrEnum {
			return glue("{", each(x.Sub, 0, ","), "}")
		}
		return glue("{", each(x.Sub, 0, ";"), "; }")
	case api.TrParam, api.TrType:
		return glue(spell(x.Sub[0]), roundText(x.Sub[1], x.Text))
	case api.TrDecl:
		return glue(storage, spell(x.Sub[0]), each(x.Sub[1:], 0, ","), ";")
	case api.TrVar:
		return glue(roundText(x.Sub[0], x.Text), behind("=", x.Sub[1:], 1))
	case api.TrFields:
		return glue(spell(x.Sub[0]), each(x.Sub[1:], 0, ","))
	case api.TrField:
		return glue(roundText(x.Sub[0], x.Text), behind(":", x.Sub[1:], 2))
	case api.TrEnum:
		return glue(x.Text, behind("=", x.Sub, 2))
	case api.TrFunc:
		return glue(storage, spell(x.Sub[0]), roundText(x.Sub[1], x.Text), spell(x.Sub[2]))
	case api.TrUnit:
		return each(x.Sub, 0, "")
	}
	return roundText(x, "")
}

// spellStatement is spell of statements whose parts may be many.
func spellStatement(x api.Tree) string {
	switch x.Kind {
	case api.TsBlock:
		return glue("{", each(x.Sub, 0, ""), "}")
	case api.TsIf:
		return fill([]string{"if ( #0 ) #0", "if ( #0 ) #0 else #0"}[len(x.Sub)-2], x)
	case api.TsReturn:
		return glue("return", each(x.Sub, 0, ""), ";")
	}
	unlessNone := func(x api.Tree) string { return strings.TrimPrefix(spell(x), ";") }
	return glue("for (", spell(x.Sub[0]), unlessNone(x.Sub[1]), ";", unlessNone(x.Sub[2]), ")", spell(x.Sub[3]))
}

// TestP4_2Spelt holds Print against the second telling.
func TestP4_2Spelt(t *testing.T) {
	g := newGrower(3)
	for range 6000 {
		x := g.any(g.Intn(8))
		prints(t, x, spell(x))
	}
	for _, s := range samples() {
		if got := spell(s.x); got != s.text {
			t.Errorf("the second telling says %q, want %q", got, s.text)
		}
	}
}

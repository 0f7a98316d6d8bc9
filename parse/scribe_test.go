package parse

import (
	"math/rand"
	"slices"
	"strings"
	"testing"

	"mortise/api"
	"mortise/token"
	"mortise/tree"
)

// scribe writes trees as texts in many manners: with more parentheses than there must be, words in other orders, blanks and comments. It puts into each node's At which token's spot the chapter gives it: Line 1, and Off the token's number (a zero At stays).
type scribe struct {
	*rand.Rand
	out []string
}

// put writes tokens.
func (s *scribe) put(l ...string) { s.out = append(s.out, l...) }

// here is the spot of the next token.
func (s *scribe) here() api.Spot { return api.Spot{Line: 1, Off: len(s.out)} }

// often tells whether one may do what need not be done.
func (s *scribe) often() bool { return s.Intn(4) == 0 }

// levelOfKind is an expression's level, as layer 4 has it.
func levelOfKind(x *api.Tree) int {
	signs := []string{",", "", "", "||", "&&", "|", "^", "&", "== !=", "< > <= >=", "<< >>", "+ -", "* / %"}
	switch x.Kind {
	case api.TrBi:
		return slices.IndexFunc(signs, func(l string) bool { return slices.Contains(strings.Fields(l), x.Text) })
	case api.TrSet:
		return 1
	case api.TrCond:
		return 2
	case api.TrCast:
		return 13
	case api.TrUn, api.TrSizeE, api.TrSizeT:
		return 14
	}
	return 15
}

// expr writes an expression for a place that wants a level.
func (s *scribe) expr(x *api.Tree, wants int) {
	if levelOfKind(x) < wants || s.often() {
		s.put("(")
		s.expr(x, 0)
		s.put(")")
		return
	}
	x.At = s.here()
	sub := x.Sub
	switch x.Kind {
	case api.TrName:
		s.put(x.Text)
	case api.TrInt, api.TrChr, api.TrStr:
		s.constant(x)
	case api.TrUn:
		s.put(x.Text)
		s.expr(&sub[0], map[bool]int{true: 14, false: 13}[len(x.Text) == 2])
	case api.TrBi, api.TrSet:
		s.between(x)
	case api.TrCond:
		s.expr(&sub[0], 3)
		x.At = s.here()
		s.put("?")
		s.expr(&sub[1], 0)
		s.put(":")
		s.expr(&sub[2], 2)
	case api.TrCall:
		s.call(x)
	case api.TrCast, api.TrLit:
		s.put("(")
		s.typeName(&sub[0])
		s.put(")")
		s.initial(&sub[1], 13)
	case api.TrSizeE:
		s.put("sizeof")
		s.expr(&sub[0], 14)
	case api.TrSizeT:
		s.put("sizeof", "(")
		s.typeName(&sub[0])
		s.put(")")
	case api.TrOffset:
		s.offset(x)
	default:
		s.postfix(x)
	}
}

// between writes a sign between two parts.
func (s *scribe) between(x *api.Tree) {
	left, right := levelOfKind(x), levelOfKind(x)+1
	if x.Kind == api.TrSet {
		left, right = 14, 1
	}
	s.expr(&x.Sub[0], left)
	x.At = s.here()
	s.put(x.Text)
	s.expr(&x.Sub[1], right)
}

// postfix writes what has its sign behind its first part.
func (s *scribe) postfix(x *api.Tree) {
	s.expr(&x.Sub[0], 15)
	x.At = s.here()
	switch x.Kind {
	case api.TrPost:
		s.put(x.Text)
	case api.TrIndex:
		s.put("[")
		s.expr(&x.Sub[1], 0)
		s.put("]")
	case api.TrMember:
		s.put(".", x.Text)
	case api.TrArrow:
		s.put("->", x.Text)
	}
}

// constant writes a number, a character or strings.
func (s *scribe) constant(x *api.Tree) {
	write := func(k api.TokenKind, text string, num int) {
		one, _ := token.Write(api.Token{Kind: k, Text: text, Num: num})
		s.put(one)
	}
	switch x.Kind {
	case api.TrInt:
		write(api.TokInt, x.Text, x.Num)
	case api.TrChr:
		write(api.TokChar, "", x.Num)
	case api.TrStr:
		rest := x.Text
		for s.often() {
			cut := s.Intn(len(rest) + 1)
			write(api.TokStr, rest[:cut], 0)
			rest = rest[cut:]
		}
		write(api.TokStr, rest, 0)
	}
}

// call writes a call.
func (s *scribe) call(x *api.Tree) {
	if s.often() {
		s.put("(", x.Text, ")")
		x.At.Off++
	} else {
		s.put(x.Text)
	}
	s.put("(")
	s.commas(x.Sub, func(y *api.Tree) { s.expr(y, 1) })
	s.put(")")
}

// commas writes parts with commas between.
func (s *scribe) commas(l []api.Tree, one func(x *api.Tree)) {
	for i := range l {
		if i > 0 {
			s.put(",")
		}
		one(&l[i])
	}
}

// offset writes an offsetof.
func (s *scribe) offset(x *api.Tree) {
	s.put("offsetof", "(")
	s.typeName(&x.Sub[0])
	s.put(",")
	x.Sub[1].At = s.here()
	s.put(x.Sub[1].Text)
	s.places(x.Sub[2:])
	s.put(")")
}

// places writes designators.
func (s *scribe) places(l []api.Tree) {
	for i := range l {
		l[i].At = s.here()
		if l[i].Kind == api.TrDot {
			s.put(".", l[i].Text)
			continue
		}
		s.put("[")
		s.expr(&l[i].Sub[0], 2)
		s.put("]")
	}
}

// initial writes an initialiser.
func (s *scribe) initial(x *api.Tree, wants int) {
	if x.Kind != api.TrList {
		s.expr(x, wants)
		return
	}
	x.At = s.here()
	s.put("{")
	s.commas(x.Sub, func(y *api.Tree) {
		last := len(y.Sub) - 1
		y.At = s.here()
		s.places(y.Sub[:last])
		if last > 0 {
			s.put("=")
		}
		s.initial(&y.Sub[last], 1)
	})
	if s.often() {
		s.put(",")
	}
	s.put("}")
}

// statement writes a statement or a declaration.
func (s *scribe) statement(x *api.Tree) {
	x.At = s.here()
	sub := x.Sub
	switch x.Kind {
	case api.TrDecl:
		s.decl(x)
	case api.TsBlock:
		s.put("{")
		for i := range sub {
			s.statement(&sub[i])
		}
		s.put("}")
	case api.TsExpr:
		s.expr(&sub[0], 0)
		s.put(";")
	case api.TsIf:
		s.put("if")
		s.asked(&sub[0])
		s.statement(&sub[1])
		if len(sub) == 3 {
			s.put("else")
			s.statement(&sub[2])
		}
	case api.TsWhile:
		s.put("while")
		s.asked(&sub[0])
		s.statement(&sub[1])
	case api.TsDo:
		s.put("do")
		s.statement(&sub[0])
		s.put("while")
		s.asked(&sub[1])
		s.put(";")
	case api.TsFor:
		s.loop(sub)
	case api.TsReturn:
		s.put("return")
		for i := range sub {
			s.expr(&sub[i], 0)
		}
		s.put(";")
	default:
		s.put(strings.Fields(map[api.TreeKind]string{api.TsNone: ";", api.TsBreak: "break ;", api.TsContinue: "continue ;"}[x.Kind])...)
	}
}

// asked writes an expression in the parentheses that a statement has.
func (s *scribe) asked(x *api.Tree) {
	s.put("(")
	s.expr(x, 0)
	s.put(")")
}

// loop writes a for.
func (s *scribe) loop(sub []api.Tree) {
	s.put("for", "(")
	s.statement(&sub[0])
	for i, end := range []string{";", ")"} {
		if x := &sub[1+i]; x.Kind == api.TsNone {
			x.At = s.here()
		} else {
			s.expr(x, 0)
		}
		s.put(end)
	}
	s.statement(&sub[3])
}

// unit writes a unit.
func (s *scribe) unit(x *api.Tree) {
	x.At = s.here()
	for i := range x.Sub {
		y := &x.Sub[i]
		if y.Kind == api.TrDecl {
			s.statement(y)
			continue
		}
		s.specs(&y.Sub[0], []string{"", "", "static"}[y.Num])
		s.declare(y, &y.Sub[1])
		s.statement(&y.Sub[2])
	}
}

// text puts the tokens together, and the spots of its bytes into the tree.
func (s *scribe) text(x *api.Tree) string {
	var b strings.Builder
	gap := func() string {
		return pick(s.Rand, " ", " ", " ", "\n", " \t", " /* ; */ ", " // }\n", "\n\n  ", " /***/", "\v\f\r")
	}
	offs := make([]int, 0, len(s.out)+1)
	for _, one := range append(slices.Clone(s.out), "") {
		b.WriteString(gap())
		offs = append(offs, b.Len())
		b.WriteString(one)
	}
	text := b.String()
	var settle func(x *api.Tree)
	settle = func(x *api.Tree) {
		if x.At.Line > 0 {
			x.At = token.At(text, offs[x.At.Off])
		}
		for i := range x.Sub {
			settle(&x.Sub[i])
		}
	}
	settle(x)
	return text
}

// write writes what one of the three calls reads.
func (s *scribe) write(name string, x *api.Tree) string {
	switch name {
	case "Unit":
		s.unit(x)
	case "Type":
		s.typeName(x)
	default:
		s.expr(x, 0)
	}
	return s.text(x)
}

// equal tells whether two trees are the same with their spots.
func equal(a api.Tree, b api.Tree) bool {
	return a.At == b.At && a.Kind == b.Kind && a.Text == b.Text && a.Num == b.Num && a.Type == b.Type && slices.EqualFunc(a.Sub, b.Sub, equal)
}

// TestP6_1Grown writes grown trees in many manners, and asks for them with all their spots.
func TestP6_1Grown(t *testing.T) {
	g := grower{rand.New(rand.NewSource(2))}
	for _, name := range faceNames {
		seen := map[api.TreeKind]int{}
		for range 3000 {
			want := g.of(name, 1+g.Intn(6))
			s := &scribe{Rand: g.Rand}
			text := s.write(name, &want)
			if tree.Check(want) != api.OK || len(text) > api.MaxText || len(s.out) > api.MaxTokens {
				continue
			}
			count(seen, want)
			if got, f := faces[name](text, aliasesOf...); f != (api.Fault{}) || !equal(got, want) {
				t.Fatalf("%s of %q: %v\n got %s\nwant %s", name, text, f, show(got, true), show(want, true))
			}
		}
		for k := range kindNames {
			if seen[k] < 100 && (name == "Unit" || k < api.TrDecl) {
				t.Errorf("%s: just %d nodes of kind %s", name, seen[k], kindNames[k])
			}
		}
	}
}

// count counts a tree's nodes by kind.
func count(seen map[api.TreeKind]int, x api.Tree) {
	seen[x.Kind]++
	for _, s := range x.Sub {
		count(seen, s)
	}
}

package parse

import (
	"fmt"
	"reflect"
	"strconv"
	"strings"
	"testing"

	"mortise/api"
	"mortise/token"
	"mortise/tree"
)

// kindNames are the kinds without the Tr or Ts that they begin with.
var kindNames = map[api.TreeKind]string{
	api.TrList: "List", api.TrItem: "Item", api.TrAt: "At", api.TrDot: "Dot", api.TrStr: "Str", api.TrName: "Name", api.TrInt: "Int", api.TrChr: "Chr", api.TrUn: "Un", api.TrPost: "Post", api.TrBi: "Bi", api.TrSet: "Set", api.TrCond: "Cond", api.TrCall: "Call", api.TrIndex: "Index", api.TrMember: "Member", api.TrArrow: "Arrow", api.TrCast: "Cast", api.TrSizeE: "SizeE", api.TrSizeT: "SizeT", api.TrOffset: "Offset", api.TrLit: "Lit",
	api.TrBase: "Base", api.TrTag: "Tag", api.TrBody: "Body", api.TrAlias: "Alias", api.TrPtr: "Ptr", api.TrArray: "Array", api.TrFn: "Fn", api.TrParam: "Param", api.TrHole: "Hole", api.TrType: "Type", api.TrDecl: "Decl", api.TrVar: "Var", api.TrFields: "Fields", api.TrField: "Field", api.TrEnum: "Enum", api.TrFunc: "Func", api.TrUnit: "Unit",
	api.TsBlock: "Block", api.TsExpr: "Expr", api.TsNone: "None", api.TsIf: "If", api.TsWhile: "While", api.TsDo: "Do", api.TsFor: "For", api.TsBreak: "Break", api.TsContinue: "Continue", api.TsReturn: "Return",
}

// show writes a tree: a name alone is its text, an int alone its number; else the kind, : and the text, # and the number, the parts in parentheses. With spots, @ and the byte's number stand behind the kind, if the spot is not zero.
func show(x api.Tree, spots bool) string {
	var b strings.Builder
	switch {
	case x.Kind == api.TrName:
		b.WriteString(x.Text)
	case x.Kind == api.TrInt && x.Text == "int":
		b.WriteString(strconv.Itoa(x.Num))
	default:
		b.WriteString(kindNames[x.Kind])
		if x.Text != "" {
			b.WriteString(":" + x.Text)
		}
		if x.Num != 0 {
			fmt.Fprintf(&b, "#%d", x.Num)
		}
	}
	if x.Type != 0 {
		fmt.Fprintf(&b, "!type %d!", x.Type)
	}
	if spots && x.At != (api.Spot{}) {
		fmt.Fprintf(&b, "@%d", x.At.Off)
	}
	for i, s := range x.Sub {
		b.WriteString([]string{"(", " "}[min(i, 1)] + show(s, spots))
	}
	if len(x.Sub) > 0 {
		b.WriteString(")")
	}
	return b.String()
}

// face is one of the three calls.
type face func(text string, aliases ...string) (api.Tree, api.Fault)

// The three calls.
func unitOf(s string, _ ...string) (api.Tree, api.Fault)       { return Unit(s) }
func typeOf(s string, aliases ...string) (api.Tree, api.Fault) { return Type(s, aliases) }
func exprOf(s string, aliases ...string) (api.Tree, api.Fault) { return Expr(s, aliases) }

// faces are the three calls by name.
var (
	faceNames = []string{"Unit", "Type", "Expr"}
	faces     = map[string]face{"Unit": unitOf, "Type": typeOf, "Expr": exprOf}
)

// sample is a text, and the tree that a call makes of it.
type sample struct{ text, want string }

// reads asks for trees without spots.
func reads(t *testing.T, call face, aliases []string, l []sample) {
	t.Helper()
	for _, s := range l {
		x, f := call(s.text, aliases...)
		if got := show(x, false); f != (api.Fault{}) || got != s.want {
			t.Errorf("%.300q: %v\n got %.600s\nwant %.600s", s.text, f, got, s.want)
		}
	}
}

// spots asks for trees with spots, and that lines and columns are those of the bytes.
func spots(t *testing.T, call face, aliases []string, l []sample) {
	t.Helper()
	for _, s := range l {
		x, f := call(s.text, aliases...)
		if got := show(x, true); f != (api.Fault{}) || got != s.want {
			t.Errorf("%.300q: %v\n got %.600s\nwant %.600s", s.text, f, got, s.want)
		}
		linesFit(t, s.text, x)
	}
}

// linesFit asks that each spot is zero, or that of its byte.
func linesFit(t *testing.T, text string, x api.Tree) {
	t.Helper()
	if x.At != (api.Spot{}) && x.At != token.At(text, x.At.Off) {
		t.Errorf("%.300q: a spot %v", text, x.At)
	}
	for _, s := range x.Sub {
		linesFit(t, text, s)
	}
}

// inBlock is the unit with this text in a function's block behind typedef int T , U ;
func inBlock(s string) string { return "typedef int T , U ; int f ( void ) { " + s + " }" }

// readsInBlock asks for the parts of a function's block.
func readsInBlock(t *testing.T, l []sample) {
	t.Helper()
	for _, s := range l {
		x, f := Unit(inBlock(s.text))
		if f != (api.Fault{}) {
			t.Errorf("%.300q: %v", s.text, f)
			continue
		}
		var parts []string
		for _, p := range x.Sub[1].Sub[2].Sub {
			parts = append(parts, show(p, false))
		}
		if got := strings.Join(parts, " "); got != s.want {
			t.Errorf("%.300q:\n got %.600s\nwant %.600s", s.text, got, s.want)
		}
	}
}

// refuses asks for a fault, and that nothing stands beside it.
func refuses(t *testing.T, call face, text string, aliases []string, want api.Fault) {
	t.Helper()
	if x, f := call(text, aliases...); f != want || !reflect.DeepEqual(x, api.Tree{}) {
		t.Errorf("%.200q: %v %.200s, want %v", text, f, show(x, false), want)
	}
}

// stops asks that a text with one @ in it is refused with ErrParse at the byte where the @ stands.
func stops(t *testing.T, call face, aliases []string, marked ...string) {
	t.Helper()
	for _, m := range marked {
		off := strings.Index(m, "@")
		if off < 0 {
			t.Errorf("no mark in %q", m)
			continue
		}
		text := m[:off] + m[off+1:]
		refuses(t, call, text, aliases, api.Fault{Code: api.ErrParse, At: token.At(text, off)})
	}
}

// right asks what P6.3 says of every tree: it is right, and read again as it is printed.
func right(t *testing.T, call face, aliases []string, x api.Tree) {
	t.Helper()
	if err := tree.Check(x); err != api.OK {
		t.Errorf("Check refuses with %d: %.600s", err, show(x, false))
	}
	text, err := tree.Print(x)
	l, _ := tree.Tokens(x)
	if err != api.OK || len(text) > api.MaxText || len(l) > api.MaxTokens {
		return
	}
	if again, f := call(text, aliases...); f != (api.Fault{}) || !tree.Same(again, x) {
		t.Errorf("%.300q is printed: %v\n got %.600s\nwant %.600s", text, f, show(again, false), show(x, false))
	}
}

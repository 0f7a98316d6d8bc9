package check

import (
	"fmt"
	"reflect"
	"strconv"
	"strings"
	"testing"

	"mortise/api"
	"mortise/ctype"
	"mortise/token"
	"mortise/word"
)

// The basic types' numbers.
const (
	idVoid = iota
	idBool
	idChar
	idSChar
	idUChar
	idShort
	idUShort
	idInt
	idUInt
	idLong
	idULong
	firstFree
)

// kindNames are the kinds of typed nodes without the Tx or Ts that they begin with.
var kindNames = map[api.TreeKind]string{
	api.TsBlock: "Block", api.TsExpr: "Expr", api.TsNone: "None", api.TsIf: "If", api.TsWhile: "While", api.TsDo: "Do", api.TsFor: "For", api.TsBreak: "Break", api.TsContinue: "Continue", api.TsReturn: "Return", api.TsFresh: "Fresh", api.TsZero: "Zero",
	api.TxConst: "Const", api.TxLocal: "Local", api.TxGlobal: "Global", api.TxDeref: "Deref", api.TxPart: "Part", api.TxRead: "Read", api.TxAddr: "Addr", api.TxConv: "Conv", api.TxBin: "Bin", api.TxPtrAdd: "PtrAdd", api.TxDiff: "Diff", api.TxCmp: "Cmp", api.TxNot: "Not", api.TxAnd: "And", api.TxOr: "Or", api.TxCond: "Cond", api.TxComma: "Comma", api.TxSet: "Set", api.TxUpdate: "Update", api.TxOld: "Old", api.TxCall: "Call", api.TxPut: "Put", api.TxGet: "Get", api.TxExit: "Exit", api.TxLit: "Lit", api.TxVoid: "Void",
}

// scribe writes the typed nodes of a program.
type scribe struct {
	api.Prog
	types *ctype.Table
}

// scribeOf is a scribe of a program, whose types must be a table.
func scribeOf(p api.Prog) scribe {
	c, err := ctype.From(p.Types)
	if err != api.OK {
		panic("no table of types")
	}
	return scribe{p, c}
}

// typeName is a type as C writes it.
func (w scribe) typeName(id int) string {
	s, err := w.types.Declare(id, "")
	if err != api.OK {
		return "no type " + strconv.Itoa(id)
	}
	return s
}

// head writes what a node is and its Num: a number alone, a global by its name, a local as L and its number, a bit-field's part as its offset, its bit and its bits, an operation by its name.
func (w scribe) head(x api.Tree) string {
	name := kindNames[x.Kind]
	switch x.Kind {
	case api.TxConst:
		return strconv.Itoa(x.Num)
	case api.TxLocal:
		return "L" + strconv.Itoa(x.Num)
	case api.TxGlobal:
		if x.Num < 0 || x.Num >= len(w.Globals) || w.Globals[x.Num].Name == "" {
			return "G" + strconv.Itoa(x.Num)
		}
		return w.Globals[x.Num].Name
	case api.TxCall:
		return w.Funcs[x.Num].Name
	case api.TxPart:
		off, bit, bits := x.Num/2048, x.Num/64%32, x.Num%64
		if bits == 0 && bit == 0 {
			return "Part." + strconv.Itoa(off)
		}
		return fmt.Sprintf("Part.%d:%d+%d", off, bit, bits)
	case api.TxBin, api.TxCmp:
		return name + ":" + word.Name(api.BinOp(x.Num))
	case api.TxPtrAdd, api.TxDiff:
		return name + "*" + strconv.Itoa(x.Num)
	case api.TxLit, api.TsFresh, api.TsZero:
		return name + "#" + strconv.Itoa(x.Num)
	}
	if x.Num != 0 {
		name += "#" + strconv.Itoa(x.Num)
	}
	return name
}

// plainType is the type of a node that is not written: that of its place, void of a statement, else int.
func plainType(x api.Tree) int {
	switch {
	case (x.Kind == api.TxRead || x.Kind == api.TxSet || x.Kind == api.TxUpdate) && len(x.Sub) > 0:
		return x.Sub[0].Type
	case x.Kind >= api.TsBlock && x.Kind <= api.TsZero:
		return idVoid
	}
	return idInt
}

// show writes a typed node: its head, its type in < >, unless that is the plain one, its parts in parentheses. What no typed node has is told, too.
func (w scribe) show(x api.Tree) string {
	s := w.head(x)
	if x.Type != plainType(x) {
		s += "<" + w.typeName(x.Type) + ">"
	}
	if x.Text != "" || x.At != (api.Spot{}) {
		s += fmt.Sprintf("!%q %v!", x.Text, x.At)
	}
	if len(x.Sub) == 0 {
		return s
	}
	return s + "(" + w.showAll(x.Sub) + ")"
}

// showAll writes nodes with blanks between.
func (w scribe) showAll(l []api.Tree) string {
	var parts []string
	for _, x := range l {
		parts = append(parts, w.show(x))
	}
	return strings.Join(parts, " ")
}

// data writes a global's bytes, each in two digits of 16, and behind + its relocations.
func (w scribe) data(g api.Global) string {
	s := fmt.Sprintf("% x", g.Data.Bytes)
	for _, r := range g.Data.Relocs {
		s += fmt.Sprintf(" +%d:%d+%d", r.Off, r.Global, r.Add)
	}
	return w.typeName(g.Type) + " = " + s
}

// checked is the program of a text that must have one, which must be as P10.3 says.
func checked(t testing.TB, text string) scribe {
	t.Helper()
	p, f := Text(text)
	if f != (api.Fault{}) {
		t.Fatalf("%.400q: fault %v", text, f)
	}
	judge(t, text, p)
	return scribeOf(p)
}

// mainless is a text without its main, which is put behind it.
func mainless(text string) string { return text + " int main(void) { return 0; }" }

// inMain is a text in the block of main, behind a text of the unit's level.
func inMain(ahead, text string) string { return ahead + " int main(void) { " + text + " }" }

// stock is what expressions of the tests are made of.
const stock = "enum E { A, B = 5 } e; _Bool b; char c; signed char sc; unsigned char uc; short h; unsigned short uh; int i, j; unsigned int u; long l; unsigned long ul; " +
	"int *p, *q; void *vp; char *cp; int **pp; int a[3]; int m[2][3]; char ca[4]; " +
	"struct O *op; struct S { int a : 3; unsigned b : 5; char c; int *p; int v[2]; struct T { short x, y; } t; unsigned w : 32; _Bool o : 1; enum E e : 4; long l : 7; } s, *sp; struct T t; union N { int n; char z[6]; } n; " +
	"int f(int x, char *y) { return x; } void v(void) { } struct S gs(void) { return s; } int *gp(void) { return p; } union N gn(union N n) { return n; } typedef int I; "

// sample is a text, and what comes of it.
type sample struct{ text, want string }

// exprs asks what expressions become as statements of main behind the stock.
func exprs(t *testing.T, l []sample) {
	t.Helper()
	for _, s := range l {
		w := checked(t, inMain(stock, s.text+";"))
		x := w.Funcs[w.Main].Body
		if len(x.Sub) != 1 || x.Sub[0].Kind != api.TsExpr {
			t.Errorf("%s: got %s", s.text, w.show(x))
			continue
		}
		if got := w.show(x.Sub[0].Sub[0]); got != s.want {
			t.Errorf("%s:\n got %s\nwant %s", s.text, got, s.want)
		}
	}
}

// bodies asks what the statements of main behind the stock become.
func bodies(t *testing.T, l []sample) {
	t.Helper()
	for _, s := range l {
		w := checked(t, inMain(stock, s.text))
		if got := w.showAll(w.Funcs[w.Main].Body.Sub); got != s.want {
			t.Errorf("%s:\n got %s\nwant %s", s.text, got, s.want)
		}
	}
}

// globals asks for all globals of a text to which a main is put.
func globals(t *testing.T, l []sample) {
	t.Helper()
	for _, s := range l {
		w := checked(t, mainless(s.text))
		var got []string
		for _, g := range w.Globals {
			got = append(got, strings.TrimSpace(g.Name+" "+w.data(g)))
		}
		if all := strings.Join(got, "; "); all != s.want {
			t.Errorf("%s:\n got %s\nwant %s", s.text, all, s.want)
		}
	}
}

// unmark is a text without its one @, and the spot where that stands.
func unmark(t testing.TB, marked string) (string, api.Spot) {
	t.Helper()
	off := strings.Index(marked, "@")
	if off < 0 || strings.Count(marked, "@") > 1 {
		t.Fatalf("not one mark in %q", marked)
	}
	text := marked[:off] + marked[off+1:]
	return text, token.At(text, off)
}

// refuses asks for a fault of a text, and that nothing stands beside it.
func refuses(t testing.TB, text string, want api.Fault) {
	t.Helper()
	if p, f := Text(text); f != want || !reflect.DeepEqual(p, api.Prog{}) {
		t.Errorf("%.600q: got %v, want %v", strings.TrimPrefix(text, stock), f, want)
	}
}

// faults asks for a fault of each text, at its mark, or at no spot, if it has none.
func faults(t testing.TB, code api.Errno, marked ...string) {
	t.Helper()
	for _, m := range marked {
		want := api.Fault{Code: code}
		if strings.Contains(m, "@") {
			m, want.At = unmark(t, m)
		}
		refuses(t, m, want)
	}
}

// unitFaults asks likewise for texts to which a main is put.
func unitFaults(t testing.TB, code api.Errno, marked ...string) {
	t.Helper()
	for _, m := range marked {
		faults(t, code, mainless(m))
	}
}

// mainFaults asks likewise for statements of main behind the stock.
func mainFaults(t testing.TB, code api.Errno, marked ...string) {
	t.Helper()
	for _, m := range marked {
		faults(t, code, inMain(stock, m))
	}
}

// takes asks that texts to which a main is put have no fault.
func takes(t testing.TB, texts ...string) {
	t.Helper()
	for _, s := range texts {
		checked(t, mainless(s))
	}
}

// takesInMain asks likewise for statements of main behind the stock.
func takesInMain(t testing.TB, texts ...string) {
	t.Helper()
	for _, s := range texts {
		checked(t, inMain(stock, s))
	}
}

// bodiesOf is bodies of texts without their last semicolon.
func bodiesOf(t *testing.T, l []sample) {
	t.Helper()
	for _, s := range l {
		bodies(t, []sample{{s.text + ";", s.want}})
	}
}

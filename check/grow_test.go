package check

import (
	"fmt"
	"math/rand"
	"strings"
)

// thing is what a grown text has declared: its name, and its kind: an int, another number, a pointer to int, an array of ints, a struct, a pointer to one, a union.
type thing struct{ name, kind string }

// grower grows texts of which most have a program.
type grower struct {
	*rand.Rand
	things []thing
	count  int
	wild   int // of so many names one is any name; 0: none is
	loops  int
}

// pick is one of several texts.
func (g *grower) pick(l ...string) string { return l[g.Intn(len(l))] }

// fresh is a new name.
func (g *grower) fresh() string {
	g.count++
	if g.wild > 0 && g.Intn(g.wild) == 0 {
		return g.pick("a", "b", "x1", "x2", "main", "S", "putchar")
	}
	return fmt.Sprint("x", g.count)
}

// named is something of a kind, or an expression that makes one, if nothing is declared.
func (g *grower) named(kind string) string {
	if g.wild > 0 && g.Intn(g.wild) == 0 {
		kind = g.pick("int", "ptr", "array", "struct", "sptr", "union", "nothing")
	}
	for range 8 {
		if len(g.things) > 0 {
			if t := g.things[g.Intn(len(g.things))]; t.kind == kind {
				return t.name
			}
		}
	}
	return map[string]string{"int": "(int){1}", "num": "(char){2}", "ptr": "(*(int *[1]){0})", "array": "(int[3]){1}", "struct": "(struct S){1}", "sptr": "(&(struct S){.v = {1}})", "union": "(union U){2}", "nothing": "nothing"}[kind]
}

// number grows an expression that is a number.
func (g *grower) number(deep int) string {
	if deep == 0 || g.Intn(5) == 0 {
		return g.pick("0", "1", "7u", "3L", "'a'", "A", "B", g.named("int"), g.named("num"), g.named("struct")+"."+g.field(), g.named("sptr")+"->"+g.field(), g.named("array")+"[1]", "*"+g.named("ptr"), g.named("union")+".n", "sizeof(struct S)", "sizeof "+g.named("array"), "offsetof(struct S, v[1])", "sizeof \"abc\"", "getchar()")
	}
	n := func() string { return "(" + g.number(deep-1) + ")" }
	switch g.Intn(14) {
	case 0, 1, 2:
		return n() + " " + g.pick("+", "-", "*", "/", "%", "<<", ">>", "&", "|", "^") + " " + n()
	case 3:
		return n() + " " + g.pick("<", ">", "<=", ">=", "==", "!=", "&&", "||") + " " + n()
	case 4:
		return g.pick("-", "+", "~", "!") + n()
	case 5:
		return n() + " ? " + n() + " : " + n()
	case 6:
		return "(" + g.pick("int", "char", "unsigned", "_Bool", "enum E", "short", "unsigned long") + ")" + n()
	case 7:
		return g.place(deep-1) + " " + g.pick("=", "+=", "-=", "*=", "<<=", "|=") + " " + n()
	case 8:
		return g.pick("++", "--") + g.place(deep-1)
	case 9:
		return g.place(deep-1) + g.pick("++", "--")
	case 10:
		return g.pointer(deep-1) + " " + g.pick("==", "!=", "<", "-") + " " + g.pointer(deep-1)
	case 11:
		return g.pick("putchar("+n()+")", "g("+n()+", "+g.pointer(deep-1)+")", "!"+g.pointer(deep-1), g.pointer(deep-1)+" != 0", "h("+g.record(deep-1)+")."+g.field())
	case 12:
		return n() + ", " + n()
	}
	return g.pointer(deep-1) + "[" + n() + "]"
}

// field is a member of struct S that is a number.
func (g *grower) field() string { return g.pick("a", "b", "c", "v[0]", "t.x", "w") }

// place grows a place that has a number.
func (g *grower) place(deep int) string {
	return g.pick(g.named("int"), g.named("num"), g.named("struct")+"."+g.field(), g.named("sptr")+"->"+g.field(), g.named("array")+"["+g.number(0)+"]", "(*"+g.pointer(deep/2)+")", g.named("union")+".z[2]")
}

// pointer grows a pointer to int, in parentheses.
func (g *grower) pointer(deep int) string {
	if deep <= 0 {
		return "(" + g.pick(g.named("ptr"), g.named("array"), "&"+g.named("int"), g.named("sptr")+"->v", g.named("sptr")+"->p") + ")"
	}
	n := g.number(deep - 1)
	return "(" + g.pick(g.pointer(deep-1)+" + ("+n+")", "("+n+") + "+g.pointer(deep-1), g.pointer(deep-1)+" - ("+n+")", "&"+g.pointer(deep-1)+"["+n+"]", "("+n+") ? "+g.pointer(deep-1)+" : 0", "(int *)(void *)"+g.pointer(deep-1), g.named("ptr")+" = "+g.pointer(deep-1)) + ")"
}

// record grows a struct, in parentheses.
func (g *grower) record(deep int) string {
	if deep <= 0 {
		return "(" + g.pick(g.named("struct"), "*"+g.named("sptr"), "(struct S){1, 2}") + ")"
	}
	return "(" + g.pick("h("+g.record(deep-1)+")", g.named("struct")+" = "+g.record(deep-1), "("+g.number(1)+") ? "+g.record(deep-1)+" : "+g.record(0), "0, "+g.record(deep-1)) + ")"
}

// declaration grows a declaration of an object, whose values may be any, or constants alone.
func (g *grower) declaration(any bool) string {
	name, kind := g.fresh(), g.pick("int", "num", "ptr", "array", "struct", "sptr", "union")
	n, p, s := "5", "0", "{ 1, [1] = 2 }"
	if any {
		n, p, s = "("+g.number(2)+")", g.pointer(1), g.record(1)
	}
	text := map[string]string{
		"int":    "int " + name + g.pick("", " = 3", " = { 4 }"),
		"num":    g.pick("char ", "unsigned ", "static short ", "_Bool ", "enum E ", "long ") + name + g.pick("", " = 3", " = { 4 }"),
		"ptr":    "int *" + name + g.pick("", " = 0", " = (int *)0", " = "+p),
		"array":  "int " + name + g.pick("[3]", "[] = { 1, 2 }", "[4] = { [2] = "+n+" }", "[A + 2] = { 1 }"),
		"struct": "struct S " + name + g.pick("", " = { 1, .v = { 2 } }", " = { .t = { "+n+" }, .b = 3 }", " = { .p = "+p+" }"),
		"sptr":   "struct S *" + name + g.pick("", " = 0"),
		"union":  "union U " + name + g.pick("", " = { "+n+" }", " = { .z = \"ab\" }"),
	}[kind]
	if any && kind == "int" && g.Intn(2) == 0 {
		text = "int " + name + " = " + n
	}
	if any && kind == "struct" && g.Intn(3) == 0 {
		text = "struct S " + name + " = " + s
	}
	g.things = append(g.things, thing{name, kind})
	return text + ";"
}

// statement grows a statement.
func (g *grower) statement(deep int) string {
	if deep == 0 {
		return g.pick(";", g.number(2)+";", g.declarationInBlock(), "return "+g.number(1)+";", "x0 = "+g.number(1)+";")
	}
	known := len(g.things)
	defer func() { g.things = g.things[:known] }()
	switch g.Intn(7) {
	case 0:
		return "if (" + g.number(2) + ") " + g.block(deep-1) + g.pick("", " else "+g.block(deep-1))
	case 1:
		return "while (" + g.pick(g.number(1), g.pointer(1)) + ") " + g.body(deep-1)
	case 2:
		return "do " + g.body(deep-1) + " while (" + g.number(1) + ");"
	case 3:
		return "for (" + g.pick(";", "int k = 0;", g.number(1)+";") + " " + g.pick("", g.number(1)) + "; " + g.pick("", g.number(1)) + ") " + g.body(deep-1)
	case 4:
		return g.block(deep - 1)
	case 5:
		if g.loops > 0 {
			return g.pick("break;", "continue;")
		}
	}
	return g.number(deep) + ";"
}

// declarationInBlock is a statement in whose block something is declared.
func (g *grower) declarationInBlock() string {
	known := len(g.things)
	defer func() { g.things = g.things[:known] }()
	return "{ " + g.declaration(true) + " }"
}

// body grows the statement of a loop.
func (g *grower) body(deep int) string {
	g.loops++
	defer func() { g.loops-- }()
	return g.block(deep)
}

// block grows a block.
func (g *grower) block(deep int) string {
	known := len(g.things)
	defer func() { g.things = g.things[:known] }()
	var l []string
	for range g.Intn(4) {
		if g.Intn(3) == 0 {
			l = append(l, g.declaration(true))
		} else {
			l = append(l, g.statement(deep))
		}
	}
	return "{ " + strings.Join(l, " ") + " }"
}

// unit grows a unit.
func (g *grower) unit() string {
	g.things, g.count, g.loops = nil, 0, 0
	l := []string{"enum E { A, B = 5 }; struct S { int a : 3; unsigned b : 5; char c; int *p; int v[2]; struct T { short x, y; } t; long w : 9; }; union U { int n; char z[6]; }; int x0;"}
	for range g.Intn(5) {
		l = append(l, g.declaration(false))
	}
	l = append(l, "int g(int m, int *p);", "struct S h(struct S s) { return s; }", "int main(void) "+g.block(3))
	known := g.things
	g.things = append(append([]thing(nil), known...), thing{"m", "int"}, thing{"p", "ptr"})
	l = append(l, "int g(int m, int *p) "+g.block(2))
	g.things = known
	for range g.Intn(3) {
		l = append(l, g.declaration(false))
	}
	return strings.Join(l, "\n")
}

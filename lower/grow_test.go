package lower

import (
	"fmt"
	"math/rand"
	"strings"
)

// grower grows texts that have programs, most of whose runs go on for a while.
type grower struct {
	*rand.Rand
	names map[string][]string // what may be named, by its sort: num, ptr, array, bytes, rec, rptr, uni
	count int
	wild  int // of so many choices one is any that may go wrong; 0: none is
	loops int
	gives string // what the function gives whose block is grown: int, void, or a struct S or a union U named v
}

// pick is one of several texts.
func (g *grower) pick(l ...string) string { return l[g.Intn(len(l))] }

// dares tells whether something may go wrong here.
func (g *grower) dares() bool { return g.wild > 0 && g.Intn(g.wild) == 0 }

// named is a thing of a sort.
func (g *grower) named(sort string) string { return g.pick(g.names[sort]...) }

// declared is a new name, which may be named from here on.
func (g *grower) declared(sort string) string {
	g.count++
	name := fmt.Sprint("x", g.count)
	g.names[sort] = append(g.names[sort], name)
	return name
}

// scope does something, and forgets the names that were declared in it.
func (g *grower) scope(do func() string) string {
	before := map[string][]string{}
	for sort, l := range g.names {
		before[sort] = l[:len(l):len(l)]
	}
	text := do()
	g.names = before
	return text
}

// leaf is a number without much in it.
func (g *grower) leaf() string {
	switch g.Intn(9) {
	case 0, 1:
		return g.pick("0", "1", "2", "-1", "3u", "7L", "0x80000000", "255", "-128", "65535", "'a'", "A", "B", "C", "12345678", "4294967295u")
	case 2:
		return g.pick("sizeof(struct S)", "sizeof ga", "offsetof(struct S, t)", "getchar()", "fe(1)")
	case 3, 4:
		return g.place(0)
	}
	return g.named("num")
}

// number grows an expression that is a number, in parentheses, if it has parts.
func (g *grower) number(deep int) string {
	if deep <= 0 || g.Intn(6) == 0 {
		return g.leaf()
	}
	a, b := g.number(deep-1), g.number(deep-1)
	switch g.Intn(16) {
	case 0, 1:
		return "(" + a + " " + g.pick("+", "-", "*", "<<", ">>", "&", "|", "^") + " " + b + ")"
	case 2:
		if g.Intn(8) == 0 || g.dares() {
			return "(" + a + " " + g.pick("/", "%") + " " + b + ")"
		}
		return "(" + a + " " + g.pick("/", "%") + " (" + b + " | 1))"
	case 3:
		return "(" + a + " " + g.pick("<", ">", "<=", ">=", "==", "!=", "&&", "||", ",") + " " + b + ")"
	case 4:
		return g.pick("-", "+", "~", "!") + "(" + a + ")"
	case 5:
		return "(" + a + " ? " + b + " : " + g.number(deep-1) + ")"
	case 6:
		return "(" + g.pick("int", "char", "unsigned char", "unsigned", "_Bool", "enum E", "short", "unsigned short", "long", "unsigned long", "signed char") + ") (" + a + ")"
	case 7, 8:
		return "(" + g.place(deep-1) + " " + g.pick("=", "=", "+=", "-=", "*=", "<<=", ">>=", "|=", "&=", "^=") + " " + a + ")"
	case 9:
		return g.pick("++", "--") + g.place(deep-1)
	case 10:
		return g.place(deep-1) + g.pick("++", "--")
	case 11:
		return "(" + g.compared(deep) + ")"
	case 12:
		return g.pick("putchar("+a+")", "putchar('a' + ("+a+" & 15))", "!"+g.pointer(deep-1), "("+g.pointer(deep-1)+" != 0)", "(_Bool) "+g.pointer(deep-1))
	case 13:
		return g.pick("fn("+a+", "+g.record(deep-1)+", "+g.pointer(deep-1)+")", "fe("+a+" | 1)", "fr("+a+" & 7)", "fs("+g.record(deep-1)+", "+a+")."+g.field(), "fu("+g.union(deep-1)+").n", "((struct S) { .v = { "+a+" }, .b = "+b+" })."+g.field())
	case 14:
		if g.dares() {
			return g.pick("fe("+a+")", "(fe("+a+") + "+b+")", "fn(fe("+a+"), "+g.record(deep-1)+", "+g.pointer(deep-1)+")", "*fp("+a+")", "fr("+a+")", g.pointer(deep-1)+"["+a+"]", "*"+g.named("ptr")+"++", "("+g.record(0)+".next)->a", "*(int *) 0", g.named("uni")+".p[0]", "main()", "((struct S *) &"+g.named("num")+")->c")
		}
	}
	return "*" + g.pointer(deep-1)
}

// compared grows two pointers held against each other.
func (g *grower) compared(deep int) string {
	p, q := g.pointer(deep-1), g.pointer(deep-1)
	if g.dares() {
		return p + g.pick(" == ", " < ", " - ", " >= ", " != ") + q
	}
	return g.pick("(ga + "+g.index(deep-1)+") "+g.pick("<", "<=", ">", ">=", "-", "==")+" (ga + "+g.index(deep-1)+")", p+g.pick(" == ", " != ")+q)
}

// index grows a number that an array of four has.
func (g *grower) index(deep int) string {
	if g.dares() {
		return "(" + g.number(deep) + ")"
	}
	return g.pick("(("+g.number(deep)+") & 3)", "1", "0", "3")
}

// field is a member of struct S that is a number.
func (g *grower) field() string {
	return g.pick("a", "b", "c", "v[0]", "v[1]", "t.x", "t.y", "w", "o", "h", "e")
}

// place grows a place that has a number.
func (g *grower) place(deep int) string {
	switch g.Intn(9) {
	case 0, 1:
		return g.named("num")
	case 2:
		return g.named("rec") + "." + g.field()
	case 3:
		return g.named("rptr") + "->" + g.field()
	case 4:
		return g.named("array") + "[" + g.index(deep-1) + "]"
	case 5:
		return g.named("bytes") + "[" + g.index(deep-1) + "]"
	case 6:
		return "((unsigned char *) &" + g.named("uni") + ")[" + g.index(deep-1) + "]"
	case 7:
		return g.named("uni") + g.pick(".n", ".z[2]", ".h[1]", ".f.lo", ".f.hi")
	}
	return "(*" + g.pointer(deep-1) + ")"
}

// pointer grows a pointer to an int, in parentheses.
func (g *grower) pointer(deep int) string {
	if deep <= 0 || g.Intn(3) == 0 {
		return "(" + g.pick(g.named("ptr"), g.named("array"), g.named("rec")+".v", "&g0", "&"+g.named("array")+"[2]", "&"+g.named("rptr")+"->v[1]") + ")"
	}
	if g.dares() {
		return "(" + g.pick(g.pointer(deep-1)+" + "+g.number(deep-1), g.pointer(deep-1)+" - 1", "(int *) 0", g.named("rec")+".p", g.named("uni")+".p", "fp("+g.number(deep-1)+")", "fq("+g.number(deep-1)+")", g.named("ptr")+g.pick("++", "--"), "(int *) &"+g.named("bytes")+"[1]") + ")"
	}
	return "(" + g.pick("ga + "+g.index(deep-1), g.index(deep-1)+" + ga", "ga + 4 - 1 - "+g.index(0), g.number(deep-1)+" ? "+g.pointer(deep-1)+" : "+g.pointer(deep-1), "(int *) (void *) "+g.pointer(deep-1), g.named("ptr")+" = "+g.pointer(deep-1), "*&"+g.named("ptr")) + ")"
}

// record grows a struct S, in parentheses.
func (g *grower) record(deep int) string {
	if deep <= 0 || g.Intn(3) == 0 {
		return "(" + g.pick(g.named("rec"), "*"+g.named("rptr"), "gr["+g.pick("0", "1")+"]") + ")"
	}
	if g.dares() {
		return "(" + g.pick("ft("+g.number(deep-1)+")", "fs(ft("+g.number(deep-1)+"), "+g.number(deep-1)+")", g.named("rec")+" = ft("+g.number(deep-1)+")") + ")"
	}
	return "(" + g.pick("fs("+g.record(deep-1)+", "+g.number(deep-1)+")", g.named("rec")+" = "+g.record(deep-1), "*"+g.named("rptr")+" = "+g.record(deep-1), g.number(deep-1)+" ? "+g.record(deep-1)+" : "+g.record(deep-1), g.number(deep-1)+", "+g.record(deep-1), "(struct S) { .c = "+g.number(deep-1)+", .p = ga, .next = &gs }") + ")"
}

// union grows a union U, in parentheses.
func (g *grower) union(deep int) string {
	return "(" + g.pick(g.named("uni"), "(union U) { .n = "+g.number(deep)+" }", g.named("uni")+" = "+g.named("uni"), "fu("+g.named("uni")+")") + ")"
}

// declaration grows a declaration.
func (g *grower) declaration() string {
	n, p, s := g.number(2), g.pointer(1), g.record(1)
	unset := g.dares()
	set := func(name, with string) string {
		if unset {
			return name
		}
		return name + " = " + with
	}
	switch g.Intn(8) {
	case 0, 1:
		return g.pick("int ", "char ", "unsigned ", "short ", "_Bool ", "enum E ", "long ", "unsigned char ") + set(g.declared("num"), n) + ";"
	case 2:
		return "int *" + set(g.declared("ptr"), p) + ";"
	case 3:
		return "int " + set(g.declared("array")+"[4]", g.pick("{ 1, 2 }", "{ [2] = "+n+" }", "{ "+n+", [0] = 3 }")) + ";"
	case 4:
		return "unsigned char " + set(g.declared("bytes")+"[8]", g.pick("\"abc\"", "{ 1, "+n+" }")) + ";"
	case 5:
		return "struct S " + set(g.declared("rec"), g.pick(s, "{ 1, 2, .v = { "+n+" }, .next = &gs }", "{ .t = { "+n+" }, .p = "+p+" }")) + ";"
	case 6:
		return "struct S *" + set(g.declared("rptr"), g.pick("&gs", "&gr[1]", "gr", "&(struct S) { "+n+" }")) + ";"
	}
	return "union U " + set(g.declared("uni"), g.pick("{ "+n+" }", "{ .z = \"ab\" }", "{ .f = { 3, "+n+" } }")) + ";"
}

// statement grows a statement.
func (g *grower) statement(deep int) string {
	if deep <= 0 {
		return g.pick(";", g.number(2)+";", g.record(1)+";", "putchar("+g.number(1)+");", g.place(1)+" = "+g.number(2)+";", "fv("+g.pointer(1)+");", "(void) "+g.number(1)+";", "fe("+g.number(1)+");", "if ("+g.number(1)+") "+g.end(), g.pick(g.named("uni"), g.named("rec"))+".p = "+g.pointer(1)+";")
	}
	switch g.Intn(9) {
	case 0, 1:
		return "if (" + g.pick(g.number(2), g.pointer(1)) + ") " + g.block(deep-1) + g.pick("", " else "+g.block(deep-1))
	case 2:
		return "while (gi-- > 0 && " + g.number(2) + ") " + g.body(deep-1)
	case 3:
		return "do " + g.body(deep-1) + " while (gi-- > 0 && " + g.number(1) + ");"
	case 4:
		return "for (" + g.pick(";", g.number(1)+";") + g.pick("gi-- > 0", "gi-- > 0", "") + "; " + g.pick("", g.number(1), "fv(ga)", "fe(0)") + ") " + g.body(deep-1)
	case 5, 6:
		return g.scope(func() string {
			i := g.declared("num")
			return "for (int " + i + " = 0; " + i + " < " + g.pick("2", "3", "5") + "; " + i + "++) " + g.body(deep-1)
		})
	case 7:
		return g.block(deep - 1)
	}
	return g.number(deep+1) + ";"
}

// end grows a statement that leaves something.
func (g *grower) end() string {
	if g.loops > 0 && g.Intn(2) == 0 {
		return g.pick("break;", "continue;")
	}
	if g.Intn(20) == 0 {
		return "exit(" + g.number(1) + ");"
	}
	switch g.gives {
	case "void":
		return "return;"
	case "int":
		return "return " + g.number(1) + ";"
	}
	return "return v;"
}

// body grows the statement of a loop.
func (g *grower) body(deep int) string {
	g.loops++
	defer func() { g.loops-- }()
	return g.block(deep)
}

// block grows a block.
func (g *grower) block(deep int) string {
	return g.scope(func() string {
		var l []string
		for range 1 + g.Intn(4) {
			if g.Intn(3) == 0 {
				l = append(l, g.declaration())
			} else {
				l = append(l, g.statement(deep))
			}
		}
		return "{ " + strings.Join(l, " ") + " }"
	})
}

// function grows a function of some blocks, with parameters that have these names and sorts.
func (g *grower) function(blocks int, head, gives, last string, names ...string) string {
	return g.scope(func() string {
		for i := 0; i < len(names); i += 2 {
			g.names[names[i+1]] = append(g.names[names[i+1]], names[i])
		}
		g.gives = gives
		text := head + " { "
		for range blocks {
			text += g.block(g.Intn(blocks + 1))
		}
		return text + last + " }"
	})
}

// stock is what all grown texts begin with.
const stock = `enum E { A, B = 5, C = -3 };
typedef struct T { short x; char y; } T;
struct S { int a : 3; unsigned b : 5; char c; int *p; int v[2]; T t; long w : 9; _Bool o : 1; unsigned short h : 16; enum E e : 4; struct S *next; };
union U { int n; unsigned char z[6]; short h[2]; struct { int lo : 12, hi : 20; } f; int *p; };
int gi = 20, g0 = 5, ga[4] = { 1, 2, 3, 4 }, *gp = ga + 1; unsigned char gc[8] = "abc"; struct S gs = { 1, 2, 3, ga, { 4, 5 }, { 6, 7 }, 8, 1, 9, C, &gs }, gr[2] = { [1] = { .p = &g0, .next = gr } }, *gq = gr + 1; union U gu = { 77 };
long gl = -7; unsigned gn = 4000000000u; char gk = -2; unsigned short gh = 65535; _Bool gb = 1;
int fn(int n, struct S s, int *p); struct S fs(struct S v, int n); union U fu(union U v); void fv(int *p); int main(void);
int fe(int n) { if (n & 1) return n; }
int fr(int n) { return n <= 0 ? 1 : n + fr(n - 1); }
int *fp(int n) { int x = n; return n & 1 ? ga : &x; }
int *fq(int n) { if (n & 1) return ga; }
struct S ft(int n) { if (n & 1) return gs; }
`

// unit grows a unit.
func (g *grower) unit() string {
	g.count, g.loops = 0, 0
	g.names = map[string][]string{"num": {"g0", "gl", "gn", "gk", "gh", "gb"}, "ptr": {"gp"}, "array": {"ga"}, "bytes": {"gc"}, "rec": {"gs", "gr[0]", "gr[1]"}, "rptr": {"gq"}, "uni": {"gu"}}
	return stock + strings.Join([]string{
		g.function(1, "int fn(int n, struct S s, int *p)", "int", " return s.a;", "n", "num", "s", "rec", "p", "ptr"),
		g.function(1, "struct S fs(struct S v, int n)", "struct", " return v;", "v", "rec", "n", "num"),
		g.function(1, "union U fu(union U v)", "union", " return v;", "v", "uni"),
		g.function(1, "void fv(int *p)", "void", "", "p", "ptr"),
		g.function(3, "int main(void)", "int", " return g0;"),
	}, "\n")
}

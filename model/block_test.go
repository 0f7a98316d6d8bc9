package model

import (
	"fmt"
	"strings"
	"testing"

	"mortise/api"
)

// names are n names with commas between.
func names(prefix string, n int) string {
	var l []string
	for i := range n {
		l = append(l, fmt.Sprint(prefix, i))
	}
	return strings.Join(l, ", ")
}

// TestP12_2Globals: globals have at first what their initialisers say, and all else is 0.
func TestP12_2Globals(t *testing.T) {
	runs(t,
		exit("int x; int main(void) { return x; }", 0),
		exit("int x = -5; int main(void) { return x; }", -5),
		exit("char a[3] = \"abc\"; int main(void) { return a[0] * 10000 + a[1] * 100 + a[2]; }", 97*10000+98*100+99),
		exit("struct { char c; int n; } s = { 1, 0x12345678 }; int main(void) { unsigned char *p = (unsigned char *) &s; int i, n = 0; for (i = 0; i < 8; i++) n = n * 3 + p[i]; return n; }", ((((((1*3+0)*3+0)*3+0)*3+0x78)*3+0x56)*3+0x34)*3+0x12),
		exit("char *s = \"xyz\"; int main(void) { return s[2] * 2 + s[3]; }", 'z'*2),
		exit("int f(void) { static int n = 3; return n++; } int main(void) { f(); f(); return f(); }", 5),
		exit("int a[300] = { [299] = 7 }; int main(void) { int i, n = 0; for (i = 0; i < 300; i++) n += a[i]; return n; }", 7),
		exit("struct B { unsigned a : 4, b : 6, c : 22; } s = { 9, 33, 1000 }; int main(void) { return s.a + s.b * 100 + s.c * 10000; }", 9+3300+10000000),
		exit("long b[2] = { [1] = 0x01020304 }; int main(void) { return ((char *) b)[7] * 10 + ((char *) b)[4]; }", 1*10+4),
	)
}

// TestP12_2Relocations: addresses in data are pointers into their globals' blocks, wherever those stand.
func TestP12_2Relocations(t *testing.T) {
	runs(t,
		exit("int x = 4, *p = &x; int main(void) { return *p + (p == &x); }", 5),
		exit("int a[4] = { 1, 2, 3, 4 }, *p = a + 2; int main(void) { return *p * 10 + p[-2] + (p - a) * 100; }", 231),
		exit("int a[4], *end = a + 4; int main(void) { return (int) (end - a); }", 4),
		undefined("int a[4], *end = a + 4; int main(void) { return *end; }"),
		exit("struct N { int v; struct N *next; } n[3] = { { 1, n + 1 }, { 2, n + 2 }, { 3, n } }; int main(void) { return n->next->v * 100 + n->next->next->v * 10 + n->next->next->next->v; }", 231),
		exit("int f(void); char c[8] = \"abcdefg\"; struct { char k; char *p[2]; } s = { 1, { c + 1, \"hij\" } }; int f(void) { return *s.p[0] * 1000 + s.p[1][2]; } int main(void) { return f(); }", 'b'*1000+'j'),
		exit("int *p = 0, x; int main(void) { return p == 0 && &x != p; }", 1),
		exit("struct S { char c; int n; } s = { 1, 2 }; int *p = &s.n; int main(void) { *p = 9; return s.n; }", 9),
		undefined("int x, *p = &x; int main(void) { return *(char *) &p; }"), // a part of a pointer is no number
		exit("int x, *p = &x; int main(void) { char *q = (char *) &p; return q != 0; }", 1),
		exit("int *const_(void); int y = 3; int **pp(void) { static int *p = &y; return &p; } int *const_(void) { return *pp(); } int main(void) { return *const_(); }", 3),
	)
}

// TestP12_2Strings: strings are objects of their own, whose bytes may be set.
func TestP12_2Strings(t *testing.T) {
	runs(t,
		exit("int main(void) { char *p = \"ab\"; p[0] = 'x'; return p[0] * 2 + p[2]; }", 'x'*2),
		undefined("int main(void) { return \"ab\"[3]; }"),
		exit("int main(void) { return \"ab\" == \"ab\"; }", 0),
		exit("int main(void) { int i, n = 0; for (i = 0; i < 3; i++) { char *p = \"a\"; n += p[0]++; } return n; }", 97+98+99),
	)
}

// TestP12_2Alignment: a global's and a local's block is aligned as its type, and no better.
func TestP12_2Alignment(t *testing.T) {
	for _, head := range []string{"%s; int main(void) { ", "int main(void) { %s; "} {
		for decl, ok := range map[string][2]bool{ // may 2, and 4 bytes be put there?
			"char a[8]":                        {false, false},
			"struct { char c[8]; } a":          {false, false},
			"short a[4]":                       {true, false},
			"union { short s; char c[8]; } a":  {true, false},
			"int a[2]":                         {true, true},
			"struct { char *p; char c[4]; } a": {true, true},
		} {
			text := fmt.Sprintf(head, decl)
			for i, kind := range []string{"short", "int"} {
				want := undefined(text + "*(" + kind + " *) &a = 5; return 1; }")
				if ok[i] {
					want = exit(want.text, 1)
				}
				runs(t, want)
			}
		}
	}
}

// TestP12_2MostCalls: 64 calls may go on within each other, main's among them, and no more.
func TestP12_2MostCalls(t *testing.T) {
	const f = "int f(int n) { return n ? f(n - 1) + 1 : 0; } "
	runs(t,
		exit(f+"int main(void) { return f(62); }", 62),
		sample{text: f + "int main(void) { return f(63); }", stop: api.StopDeep},
		sample{text: f + "int main(void) { return f(1000); }", stop: api.StopDeep},
		exit(f+"int main(void) { return f(62) + f(62) + f(62); }", 186), // calls that are over do not count
		exit(f+"int main(void) { return f(f(62)); }", 62),
		exit("void f(int n) { if (n) f(n - 1); } int main(void) { f(62); return 3; }", 3),
		sample{text: "void f(int n) { if (n) f(n - 1); } int main(void) { f(63); return 3; }", stop: api.StopDeep},
		exit("int a(int n); int b(int n) { return n ? a(n - 1) : 8; } int a(int n) { return n ? b(n - 1) : 9; } int main(void) { return a(62); }", 9),
		sample{text: "int a(int n); int b(int n) { return n ? a(n - 1) : 8; } int a(int n) { return n ? b(n - 1) : 9; } int main(void) { return a(63); }", stop: api.StopDeep},
		sample{text: "int f(int n) { putchar('x'); if (n) f(n - 1); return 0; } int main(void) { return f(62); }", stop: api.StopExit, out: strings.Repeat("x", 63)},
		sample{text: "int f(int n) { putchar('x'); if (n) f(n - 1); return 0; } int main(void) { return f(63); }", stop: api.StopDeep, out: strings.Repeat("x", 63)},
		sample{text: "int n; int f(int a) { return 0; } int g(int d) { return d ? g(d - 1) : f(putchar('v')); } int main(void) { return g(62); }", stop: api.StopDeep, out: "v"}, // the values stand ahead of the call
		sample{"int g(int d) { return d ? g(d - 1) : putchar('p') + getchar(); } int main(void) { return g(62); }", api.StopExit, 'p' - 1, "p"},                                  // putchar and getchar are no calls
	)
}

// TestP12_2MostLocals: the functions of all calls that go on have at most 2048 locals together, whether they have blocks or not.
func TestP12_2MostLocals(t *testing.T) {
	f := "int f(int n) { if (n) return f(n - 1); return 5; int " + names("a", 255) + "; } " // 256 with its parameter
	g := "int g(int n) { int " + names("a", 127) + "; return n ? g(n - 1) : 6; } "          // 128
	runs(t,
		exit(f+"int main(void) { return f(7); }", 5),
		sample{text: f + "int main(void) { return f(8); }", stop: api.StopDeep},
		sample{text: f + "int main(void) { int x; return f(7); }", stop: api.StopDeep},
		sample{text: f + "int main(void) { if (1) return f(7); (int) { 3 }; }", stop: api.StopDeep}, // a literal is a local
		exit(f+"int main(void) { static int x; return f(7); }", 5),
		exit(f+"int main(void) { return sizeof (int) { 3 } + f(7); }", 9),
		exit(f+"int main(void) { return f(7) + f(7) + f(6); }", 15),
		exit(g+"int main(void) { return g(15); }", 6),
		sample{text: g + "int main(void) { return g(16); }", stop: api.StopDeep},
		exit(f+g+"int h(int n) { int x; return g(n); } int main(void) { return f(7) + h(14) + g(15); }", 17),
		sample{text: f + g + "int h(int n) { int x; return g(n); } int main(void) { return h(15); }", stop: api.StopDeep},
	)
}

// TestP12_2MostBlocks: with all globals and all locals that may be there is room for structs yet that are handed over.
func TestP12_2MostBlocks(t *testing.T) {
	text := "struct S { int *p; char c; } s; int " + names("g", 255) + "; " +
		"struct S f(int n, struct S s) { int " + names("a", 253) + "; s.c++; if (n) return f(n - 1, s); return s; } " +
		"int main(void) { s.p = &g7; struct S t = f(6, s); return t.c * 10 + (t.p == &g7); }"
	runs(t, exit(text, 71))
}

// TestP12_2ManyValues: however many structs are about to be handed over, each is its own value.
func TestP12_2ManyValues(t *testing.T) {
	const width, deep, calls = 6, 40, 40 // 9600 values at one time
	inner := "r(n - 1)"
	for range deep {
		inner = "f(" + strings.Repeat("s, ", width) + inner + ")"
	}
	text := "struct S { char a, b; } s = { 1, 2 }; " +
		"int f(struct S a, struct S b, struct S c, struct S d, struct S e, struct S g, int n) { return n + a.a + g.b; } " +
		"int r(int n) { s.a = s.a; return n ? " + inner + " : 0; } int main(void) { return r(" + fmt.Sprint(calls) + "); }"
	o := ran(t, text, "", api.MaxFuel)
	if o.Stop != api.StopExit || o.Code != 3*deep*calls {
		t.Errorf("%v", o)
	}
}

// TestP12_2Parameters: parameters are objects of the call, in order, with the values that are handed over.
func TestP12_2Parameters(t *testing.T) {
	runs(t,
		exit("int f(int a, int b, int c) { return a * 100 + b * 10 + c; } int main(void) { return f(1, 2, 3); }", 123),
		exit("int f(int a) { a++; return a; } int main(void) { int a = 5; return f(a) * 10 + a; }", 65),
		exit("int f(int *a) { return ++*a; } int main(void) { int a = 5; return f(&a) * 10 + a; }", 66),
		exit("int f(char c, unsigned char u, _Bool b, short h) { return c + u * 1000 + b * 1000000 + h; } int main(void) { return f(511, 511, 7, 65535); }", -1+255000+1000000-1),
		exit("int f(int a[3]) { a[1] = 7; return sizeof a; } int main(void) { int a[3] = { 0 }; return f(a) + a[1]; }", 11),
		exit("struct S { int a, b; } s = { 3, 4 }; int f(struct S s) { s.a = 9; return s.a * 10 + s.b; } int main(void) { return f(s) * 10 + s.a; }", 943),
		exit("int f(int a, int b) { return &a != &b; } int main(void) { return f(1, 1); }", 1),
		exit("int *keep; int f(int n) { int old = keep == 0; keep = &n; return old; } int main(void) { return f(1); }", 1),
		exit("int f(int n) { return n ? n + f(n - 1) + n * 100 : 0; } int main(void) { return f(3); }", 606),
		exit("int g; int f(int a, int b) { return a * 10 + b; } int main(void) { return f(g++, g++) * 100 + f(g = 5, g); }", 155),
		undefined("int *f(int n) { return &n; } int main(void) { return *f(3); }"),
		undefined("int f(int n) { int x; return x; } int main(void) { f(1); return f(2); }"),
	)
}

// TestP12_2Fresh: a local is a new object each time its declaration is come to, and not set, or all 0.
func TestP12_2Fresh(t *testing.T) {
	runs(t,
		undefined("int main(void) { int x[2]; x[0] = 1; return x[1]; }"),
		undefined("int main(void) { int i; for (i = 0; i < 2; i++) { int x; if (i) return x; x = 5; } }"),
		exit("int main(void) { int i, n = 0; for (i = 0; i < 3; i++) { int x = 0; n += ++x; } return n; }", 3),
		exit("int main(void) { int i, n = 0; for (i = 0; i < 3; i++) { struct { char c; int n; } s = { 1 }; n += s.n++ + ((char *) &s)[2]; ((char *) &s)[2] = 9; } return n; }", 0),
		exit("int main(void) { int *p; { int x = 6; p = &x; } return *p; }", 6), // nothing ends a block but its declaration and the call's end
		undefined("int main(void) { int *p = 0, i; for (i = 0; i < 2; i++) { int x = 6; if (p) return *p; p = &x; } }"),
		undefined("int main(void) { int *p = 0, i; for (i = 0; i < 2; i++) { int x; if (p) return 5; p = &x; } }"), // not even asked may it be
		undefined("int main(void) { int *p = 0, i; for (i = 0; i < 2; i++) { int x; x = 5; if (i) return *p; p = &x; } }"),
		exit("int main(void) { int *p = 0, i; for (i = 0; i < 2; i++) { int x; x = 5; p = &x; } return *p; }", 5),
		undefined("int *f(void) { int x = 1; return &x; } int main(void) { return *f(); }"),
		undefined("int *f(void) { int x = 1; return &x; } int main(void) { int *p = f(); return p == p; }"),
		exit("int *f(void) { static int x = 1; return &x; } int main(void) { return ++*f() * 10 + *f(); }", 22),
		exit("int *f(void) { int x = 1; return &x; } int main(void) { int *p = f(), *q = p; q = p; return 4; }", 4), // it may be handed on
		undefined("int *f(int n) { int x = n; if (n) return f(n - 1); return &x; } int main(void) { return *f(3); }"),
		exit("int g(int *p) { return *p; } int main(void) { int x = 3; return g(&x); }", 3),
		exit("int f(int n, int *p) { int x = n * 10; return n ? f(n - 1, &x) + (p ? *p : 0) : *p; } int main(void) { return f(3, 0); }", 10+20+30),
		exit("int main(void) { int x = x + 1; return x; }", 1),
		exit("int main(void) { int a[3] = { a[1] + 4, a[0] + 2, a[1] * 2 }; return a[0] * 100 + a[1] * 10 + a[2]; }", 4*100+6*10+12),
		undefined("struct S { char c; int n; }; int main(void) { struct S s; s.c = 1; return s.n; }"),
		undefined("struct S { char c; int n; }; int main(void) { struct S s; s.c = 1; s.n = 2; return ((char *) &s)[1]; }"), // padding is not set
		exit("struct S { char c; int n; }; int main(void) { struct S s = { 1, 2 }; return ((char *) &s)[1]; }", 0),
	)
}

// TestP12_2Literals: a literal is a new object each time it is come to.
func TestP12_2Literals(t *testing.T) {
	runs(t,
		exit("struct S { int a, b; }; int main(void) { struct S *p = &(struct S) { 3, 4 }; p->a++; return p->a * 10 + p->b; }", 44),
		exit("int main(void) { int i, n = 0; for (i = 0; i < 3; i++) n += ++(int) { 5 }; return n; }", 18),
		undefined("int main(void) { int i, *p = 0; for (i = 0; i < 2; i++) { int *q = (int[2]) { 1 }; if (p) return *p; p = q; } }"),
		exit("int main(void) { int i, *p = 0; for (i = 0; i < 2; i++) p = (int[2]) { i, i + 1 }; return p[0] * 10 + p[1]; }", 12),
		exit("int main(void) { int *p; { p = (int[]) { 7 }; } return *p; }", 7),
		undefined("int *f(void) { return (int[]) { 7 }; } int main(void) { return *f(); }"),
		exit("int main(void) { return ((char[4]) { \"ab\" })[1] + ((char[4]) { \"ab\" })[3]; }", 'b'),
		exit("struct S { int a; int *p; }; int main(void) { return *(struct S) { 1, &(int) { 8 } }.p; }", 8),
		exit("int *p = (int[]) { 1, 2, 3 }; int main(void) { p[1]++; return p[1] * 10 + p[2]; }", 33),
		exit("struct S { int a; struct S *n; }; int main(void) { struct S *p = &(struct S) { 1, &(struct S) { 2, &(struct S) { 3, 0 } } }; int n = 0; while (p) { n = n * 10 + p->a; p = p->n; } return n; }", 123),
		exit("struct S { char c; int n; }; int main(void) { struct S *p = &(struct S) { 1 }; return p->n + ((char *) p)[1]; }", 0),
		exit("int f(int n, int *p) { int *q = &(int) { n }; return n ? f(n - 1, q) * 10 + *p : *p; } int main(void) { return f(3, &(int) { 9 }); }", 1*1000+2*100+3*10+9),
	)
}

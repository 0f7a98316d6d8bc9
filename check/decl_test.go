package check

import (
	"fmt"
	"strings"
	"testing"

	"mortise/api"
)

// TestP10_1Declarators: lengths, and what is no declarator of an object.
func TestP10_1Declarators(t *testing.T) {
	unitFaults(t, api.ErrDeclare,
		`int @a[0];`, `int @a[-1];`, `int @a[16385];`, `int @a[4294967295u];`, `int b, @a[1 - 1];`, `int @a[2][0];`, `int @a[0][2];`, `typedef int @T[0];`, `int *@a[0];`, `int (*@a)[0];`, `int f(int @a[0]);`, `int f(int b, int @[0]);`, `int x = sizeof(@int[0]);`, `int x = sizeof(@char *[16385]);`, `void @a[0];`,
		`int (*@p)(void);`, `int @a[2](void);`, `int @f(void)(void);`, `int (*@f(void))(void);`, `typedef int @F(void);`, `typedef int (*@F)(void);`, `int x = sizeof(@int(void));`, `int x = sizeof(@int (*)(int));`, `int f(int @g(void));`, `int f(int b, int (*@g)(int));`, `int f(int @(void));`, `int (**@p)(int a) = 0;`,
	)
	unitFaults(t, api.ErrConst, `int x; int a[@x];`, `int x; int a[x @+ 1];`, `int a[(1 @, 2)];`, `int f(int n, int a[@n]);`, `int a["x" @+ 1];`, `int a[@"x"];`, `int x; int a[@&x];`, `int a[@getchar()];`, `int x; int a[1 @? 2 : x];`)
	unitFaults(t, api.ErrZero, `int a[1 @/ 0];`, `int a[1 @% 0];`, `int a[1 @? 2 : 1 / 0];`, `int a[0 @&& 1 / 0];`, `int a[1 @|| 1 % 0];`)
	unitFaults(t, api.ErrName, `int a[@x];`, `int (*p)[@x];`, `int f(int a[@x]);`, `int a[sizeof @a];`)
	unitFaults(t, api.ErrIncomplete, `int @a[2][];`, `void @a[2];`, `void @a[];`, `struct O @a[2];`, `int f(struct O @a[]);`, `int f(int @a[2][]);`, `int x = sizeof(@void[2]);`)
	unitFaults(t, api.ErrTwice, `int (*p)(int a, int @a);`)
	tables(t, []sample{
		{`char a[16384], b[1]; int c['a'], d[sizeof(int)], *e[2][3], (*f)[4];`, `char [16384], char [1], int [97], int [4], int *, int *[3], int *[2][3], int (*)[4]`},
		{`enum { N = 3 }; int a[N], b[N + 1], c[-N + 4], d[N > 2], e[!N + 2], f[N ? 5 : 6], g[(char)257 + 7], h[N == 3 && 1];`, `enum #1, int [3], int [4], int [1], int [2], int [5], int [8]`},
		{`char a[3][2][1];`, `char [1], char [2][1], char [3][2][1]`},
		{`int (*(*a[2])[3])[4];`, `int [4], int (*)[4], int (*[3])[4], int (*(*)[3])[4], int (*(*[2])[3])[4]`},
	})
}

// told writes the functions of a program: the result, the name, the types of parameters, and behind / those of other locals.
func (w scribe) functions() string {
	var l []string
	for _, f := range w.Funcs {
		var locals []string
		for i, id := range f.Locals {
			if i == f.Params {
				locals = append(locals, "/")
			}
			locals = append(locals, w.typeName(id))
		}
		l = append(l, fmt.Sprintf("%s %s(%s)", w.typeName(f.Result), f.Name, strings.Join(locals, " ")))
	}
	return strings.Join(l, ", ")
}

// functionLists asks for the functions of texts to which a main is put.
func functionLists(t *testing.T, l []sample) {
	t.Helper()
	for _, s := range l {
		w := checked(t, mainless(s.text))
		if got := strings.TrimSuffix(w.functions(), ", int main()"); got != s.want {
			t.Errorf("%s:\n got %s\nwant %s", s.text, got, s.want)
		}
	}
}

// TestP10_1Functions: what functions give and take, how they are numbered, and what locals they have.
func TestP10_1Functions(t *testing.T) {
	functionLists(t, []sample{
		{`void f(void) { } int g() { return 1; } char *h(int a, char b) { return 0; }`, `void f(), int g(), char * h(int char)`},
		{`int g(void); int f(void) { return g(); } int g(void) { return 1; }`, `int g(), int f()`},
		{`int f(void); int g(void), f(void); int g(void) { return 1; } int f(void) { return 2; } int f(void);`, `int f(), int g()`},
		{`int f(int a[3], char b[], int c[2][3], int *d); int f(int *a, char *b, int (*c)[3], int d[]) { int x; char y[2]; return a[1]; }`, `int f(int * char * int (*)[3] int * / int char [2])`},
		{`typedef int T[3]; int f(T x) { return x[0]; }`, `int f(int *)`},
		{`int f(int, char) { return 0; }`, `int f(int char)`},
		{`int f(int a) { int a; { int a; char b; } { char a; } return a; }`, `int f(int / int int char char)`},
		{`struct S { int a; } f(struct S x) { x.a++; return x; }`, `struct S f(struct S)`},
		{`static int f(void) { return 1; } int f(void);`, `int f()`},
		{`int f(int a, int b, int c, int d, int e, int f, int g) { return g; }`, `int f(int int int int int int int)`},
		{`int f(int n, char a[sizeof n]) { return n; }`, `int f(int char *)`},
		{`int f(int n, char a[sizeof (int[]){1, 2}], char b[sizeof "ab"]) { return n; }`, `int f(int char * char *)`},
		{`int putchar(int c) { return c; } int g(void) { return putchar(1); }`, `int putchar(int), int g()`},
		{`int f(void) { return f(); }`, `int f()`},
		{`int f(int a) { static int x; int y = 1; for (int z; ; ) { (int){2}; } }`, `int f(int / int int int)`},
		{`int f(int a[]) { int b[] = { 1, 2 }; char c[] = "ab"; return sizeof b + sizeof c + sizeof a; }`, `int f(int * / int [2] char [3])`},
	})
	w := checked(t, "int f(int x) { return x; } int main(void) { return f(2); } int g(void) { return main(); }")
	if w.Main != 1 || w.show(w.Funcs[1].Body) != "Block(Return(f(2)))" || w.show(w.Funcs[2].Body) != "Block(Return(main))" {
		t.Error(w.Main, w.show(w.Funcs[1].Body), w.show(w.Funcs[2].Body))
	}
	w = checked(t, inMain("int putchar(int c) { return c; }", "putchar(1); { int putchar; } exit(2); int exit; exit = getchar();"))
	if got := w.showAll(w.Funcs[1].Body.Sub); got != "Expr(putchar(1)) Block(Fresh#0) Expr(Exit<void>(2)) Fresh#1 Expr(Set(L1 Get))" {
		t.Error(got)
	}
}

// TestP10_1FunctionFaults: functions that may not be declared so.
func TestP10_1FunctionFaults(t *testing.T) {
	faults(t, api.ErrDeclare,
		`int main(void) { int @f(void); }`, `int main(void) { { static int @f(void); } }`, `int main(void) { int x, @f(int a, int a); }`, `int main(void) { for (int @f(void); ; ) ; }`, `int main(void) { typedef int @f(void); }`,
		`int @f(void) = 1; int main(void) { }`, `int x, @f(void) = 1;`, `static int @f(int a, int a) = { 1 };`, `typedef int @f(int a, int a);`,
		`struct O @f(void);`, `struct O @f(void) { }`, `typedef int A[3]; A @f(void);`, `int @f(void)[3];`, `typedef int A[]; A @f(void) { }`, `union U { int a; } *g(void), @f(void)[2];`,
	)
	unitFaults(t, api.ErrLarge, `struct L { int a[4097]; } @f(void);`, `struct L { char a[16384], b; } *g(struct L *p) { return p; } struct L @f(int a) { }`, `struct L { int a[4097]; }; int f(int a, struct L @b);`, `typedef int A[16384]; struct L { A a; }; int f(struct L @);`)
	unitFaults(t, api.ErrIncomplete, `int f(void @x);`, `int f(void @, int);`, `int f(int a, void @x) { }`, `struct O; int f(struct O @x);`, `int f(struct O @x) { }`, `int f(union U @);`)
	unitFaults(t, api.ErrTooLarge, `int f(int a, int b, int c, int d, int e, int f, int g, int @h);`, `int f(int a, int b, int c, int d, int e, int f, int g, char @*, int j) { return 1; }`)
	unitFaults(t, api.ErrTwice, `int f(int a, int @a);`, `int f(int a, char b, char *@a) { }`, `int f(int a[3], enum { @a } b);`, `int f(enum { a } b, int @a);`)
	unitFaults(t, api.ErrTwice,
		`int f(void); int @f(int a);`, `int f(int a); int @f(char a);`, `int f(int a); void @f(int a);`, `int f(int a); int @f(int a, int b);`, `int f(int *a); int @f(char *a) { return 0; }`, `int f(void) { return 0; } int @f(void) { return 0; }`, `int f(void); int f(void) { return 0; } int @f(void) { return x; }`, `int f(void), @f(int a);`,
		`int f; int @f(void);`, `int f(void); int @f;`, `int f(void) { return 0; } char @f;`, `typedef int f; int @f(void);`, `int f(void); typedef int @f;`, `enum { f }; int @f(void) { return 0; }`, `int x; int @x(void) { return 0; }`, `int f(void) { return 0; } long @f(void);`,
		`enum E { A } f(void); int @f(void);`, `int f(struct S *p); int @f(struct S *p);`,
	)
	unitFaults(t, api.ErrCall, `int getchar; int f(void) { return @getchar(); }`)
	takes(t, `int f(int a[3]); int f(int *b) { return *b; }`, `static int f(void); int f(void) { return 0; }`, `typedef int T; T f(T a); int f(int b) { return b; }`, `int putchar; int f(void) { return putchar; }`, `enum { exit }; int f(void) { return exit; }`, `int f(int f) { return f; }`)
}

// TestP10_1NotDefined: the first function that is declared and not defined, at its first declaration.
func TestP10_1NotDefined(t *testing.T) {
	faults(t, api.ErrDeclare,
		`int @f(void); int main(void) { return 0; }`, `int @f(void); int f(void); int main(void) { return f(); }`, `int g(void), @f(void), h(void); int g(void) { return 0; } int main(void) { return 0; }`, `int f(void) { return 0; } int @g(void); int f(void); int main(void) { return 0; }`,
		`int @main(void);`, `int @f(void);`, `int main(void) { return 0; } int @putchar(int c);`, `int main(int a) { } void @f(void);`, `int x; static int @f(int a);`, `int @g(void), f(void); int f(void) { return g(); } int main(void) { return 0; }`,
	)
}

// TestP10_1Main: what is no main.
func TestP10_1Main(t *testing.T) {
	faults(t, api.ErrMain, ``, ` `, `int x;`, `int main;`, `int main(int a) { }`, `void main(void) { }`, `char main(void) { return 0; }`, `long main(void) { return 0; }`, `unsigned main() { return 0; }`, `typedef int main;`, `enum { main };`, `int f(void) { return 0; }`, `int *main(void) { return 0; }`, `enum E { A } main(void) { return A; }`, `struct main { int a; };`, `int Main(void) { return 0; }`, `int f(int main) { return main; }`, `int f(void) { static int main; return main; }`, `int main(int a, int b) { return a; }`)
	for _, s := range []string{`int main(void) { }`, `int main() { }`, `static int main(void) { }`, `typedef int T; T main(void) { }`, `signed main(void) { }`, `int main(void); int main(void) { }`, `int main(void) { return main(); }`, `int main(void) { int main = 1; return main; }`} {
		checked(t, s)
	}
}

// TestP10_1Typedefs: names for types.
func TestP10_1Typedefs(t *testing.T) {
	unitFaults(t, api.ErrDeclare, `typedef int @T = 1;`, `typedef int T, @U = x;`, `typedef int @T[] = { 1 };`, `int main1; typedef int @main1 = 2;`, `int f(void) { typedef char @c = 'a'; }`)
	unitFaults(t, api.ErrTwice, `typedef int T; typedef int @T;`, `typedef int T; int @T;`, `int T; typedef int @T;`, `typedef int T, @T;`, `int f(void) { int x; typedef char @x; }`, `typedef int T; typedef char @T;`)
	unitFaults(t, api.ErrName, `typedef int T[@x] = 1;`)
	tables(t, []sample{
		{`typedef int T, *U, V[3]; T a; U b; V c; T *d; V *e;`, `int *, int [3], int (*)[3]`},
		{`typedef int A[]; A a = { 1, 2 }, b = { 3 };`, `int [], int [2], int [1]`},
		{`typedef void V; V *p; typedef struct S S; S *q; struct S { S *n; };`, `void *, struct S {struct S *n}, struct S *`},
		{`typedef struct { int a; } T; T x, *p; int f(void) { typedef char T; T *x; return sizeof(T); }`, `struct #1 {int a}, struct #1 *, char *`},
	})
	takes(t, `typedef int T; int f(void) { int T = 1; { typedef char T; T x; } return T; }`, `typedef int T; T f(T T) { return T; }`, `typedef int T; T a = 1, b = sizeof(T);`, `typedef int H[16384]; H *p;`, `typedef struct S;`, `typedef int;`, `static struct S { int a; };`)
}

// TestP10_1Objects: objects' names, and where they begin to be.
func TestP10_1Objects(t *testing.T) {
	unitFaults(t, api.ErrTwice, `int x; int @x;`, `int x, @x;`, `int x = 1; char @x = y;`, `int f(void) { int x; char @x; }`, `int f(void) { static int x; int @x; }`, `int f(void) { int x; { } int @x = z; }`, `int f(void) { for (int i, @i; ; ) ; }`)
	takes(t, `int x; int f(void) { int x; { int x; } return x; }`, `int f(int x) { int x; return x; }`, `int f(void) { for (int i; ; ) { int i; } }`, `int f(void) { for (int i; ; ) ; for (int i; ; ) ; int i; }`, `int x = sizeof x;`, `int f(void) { int x = x; return x; }`, `struct S { struct S *p; } s = { &s };`, `void *a[] = { a, &a, a + 2 };`)
	globals(t, []sample{
		{`int x; static char y; short z[2];`, `x int = 00 00 00 00; y char = 00; z short [2] = 00 00 00 00`},
		{`int f(void) { static int x = 3; { static char x; } int y; return x; } int z;`, `x int = 03 00 00 00; x char = 00; z int = 00 00 00 00`},
		{`char *p = "ab"; int f(void) { "c"; static char *q = "d"; return sizeof "e"; }`, `p char * = 00 00 00 00 +0:1+0; char [3] = 61 62 00; char [2] = 63 00; q char * = 00 00 00 00 +0:4+0; char [2] = 64 00`},
		{`struct S { char c; int i; } x, y[2];`, `x struct S = 00 00 00 00 00 00 00 00; y struct S [2] = 00 00 00 00 00 00 00 00 00 00 00 00 00 00 00 00`},
	})
}

// repeated is so many texts one behind the other, in which # stands for their numbers, from 0 on.
func repeated(n int, text string) string {
	var b strings.Builder
	for i := range n {
		b.WriteString(strings.ReplaceAll(text, "#", fmt.Sprint(i)))
	}
	return b.String()
}

// TestP10_1Limits: as many as there may be, and one more.
func TestP10_1Limits(t *testing.T) {
	takes(t,
		"struct S { "+repeated(64, "int a#; ")+"} x;", "struct S { "+repeated(63, "int a#; ")+"int : 0; } x;", "struct S { int a"+repeated(63, ", b#")+"; } x;",
		repeated(63, "int f#(void) { return #; } "), repeated(63, "int f#(void); ")+repeated(63, "int f#(void) { return #; } int f#(void); "), repeated(256, "int x#; "), repeated(255, "int x#; ")+"int f(void) { static int y; return 0; }", repeated(255, "int x#; ")+"int f(void) { \"a\"; return 0; }",
		repeated(128, "char *x# = \"a\"; "), repeated(128, "int *x# = (int[]){1}; "), "int f(void) { "+repeated(256, "int x#; ")+"}", "int f(int a, int b) { "+repeated(254, "int x#; ")+"static int y; }", "int f(void) { "+repeated(256, "(int){#}; ")+"} int g(void) { "+repeated(256, "{ int x; } ")+"}",
		"int f(void) { "+repeated(300, "sizeof (int){#}; sizeof \"a\"; ")+repeated(256, "int x#; ")+"}",
	)
	unitFaults(t, api.ErrTooLarge,
		"struct S { "+repeated(64, "int a#; ")+"int @b; };", "union S { "+repeated(63, "int a#; ")+"int b, @c, d; } x;", "struct S { int : 3"+repeated(63, ", b#")+"; char @: 0; } x;", "struct S { "+repeated(64, "int a#; ")+"int @a0; };",
		repeated(64, "int f#(void) { return #; } ")+"int @g(void);", repeated(64, "int f#(void); ")+"int @g(void) { return 0; }", repeated(62, "int f#(void) { return #; } ")+"int g(void), h(void), @i(void);",
		repeated(256, "int x#; ")+"int @y;", repeated(256, "int x#; ")+"int @x0;", repeated(256, "int x#; ")+"int @y = z;", repeated(256, "int x#; ")+"int f(void) { static int @y; }", repeated(256, "int x#; ")+"int f(void) { return *@\"a\"; }", repeated(255, "int x#; ")+"char *y = @\"a\";", repeated(255, "int x#; ")+"int *y = @(int[]){1};", repeated(254, "int x#; ")+"char *y[] = { \"a\", @\"b\" };", repeated(256, "int x#; ")+"int y[sizeof @\"a\"];",
		"int f(void) { "+repeated(256, "int x#; ")+"int @y; }", "int f(int a, int b) { "+repeated(254, "int x#; ")+"int @x0; }", "int f(void) { "+repeated(256, "int x#; ")+"@(int){1}; }", "struct S { int a; } g(void); int f(void) { "+repeated(256, "int x#; ")+"g()@.a; }", "int f(void) { "+repeated(255, "int x#; ")+"(int){@(int){1}}; }", "int f(void) { "+repeated(256, "{ int x; } ")+"for (int @y; ; ) ; }", "int f(void) { "+repeated(256, "int x#; ")+"sizeof @(int){1}; }",
	)
	takes(t, repeated(255, "int x#; ")+"int f(void) { return sizeof \"a\"; } int y;", repeated(256, "int x#; ")+"int f(void) { int y[] = { 1 }; char z[] = \"a\"; }")
	faults(t, api.ErrTooLarge, repeated(63, "int f#(void) { return #; } ")+"int main(void) { return 0; } int @g(void) { return 0; }")
	faults(t, api.ErrTwice, repeated(63, "int f#(void) { return #; } ")+"int main(void) { return 0; } int x; int @x(void);")
}

// TestP10_1Full: the table of types has no room for one more.
func TestP10_1Full(t *testing.T) {
	full := func(n int) string { return repeated(n, "struct S# *p#; ") }
	takes(t, full(250)+"struct T;", "int *p; char *q; "+full(249)+"char *r; int *s;")
	unitFaults(t, api.ErrFull, full(250)+"struct T; @struct U;", full(250)+"struct T; int *@p;", full(250)+"struct T; int @a[2];", full(250)+"struct T; int f(int @a[2]);", full(250)+"struct T; int x = sizeof(@int *);", full(250)+"struct T; int x; int f(void) { return !@&x; }", full(250)+"struct T; int f(void) { return *@\"ab\"; }", full(250)+"struct T; @enum E { A };", full(250)+"int x[3]; int f(void) { return *@x; }", full(250)+"int @x[] = { 1 };", full(250)+"struct T; int f(void) { @\"\"; }", full(250)+"int *p; @struct { int a; } x;")
}

package initial

import "testing"

// TestP9_3Braces: braces left out at several levels.
func TestP9_3Braces(t *testing.T) {
	wantTold(t, []example{
		{`int a[2][2] = {1, 2, 3}`, "int [2][2] | 0 int 0.0 | 4 int 1.0 | 8 int 2.0"},
		{`int a[2][2] = {{1}, 2}`, "int [2][2] | 0 int 0.0.0.0 | 8 int 1.0"},
		{`int a[2][2][2] = {1, 2, 3, 4, 5}`, "int [2][2][2] | 0 int 0.0 | 4 int 1.0 | 8 int 2.0 | 12 int 3.0 | 16 int 4.0"},
		{`int a[2][2][2] = {{1, 2, 3}, 4}`, "int [2][2][2] | 0 int 0.0.0.0 | 4 int 0.0.1.0 | 8 int 0.0.2.0 | 16 int 1.0"},
		{`int a[2][2][2] = {{{1}, 2}, 3}`, "int [2][2][2] | 0 int 0.0.0.0.0.0 | 8 int 0.0.1.0 | 16 int 1.0"},
		{`int a[2][2][2] = {1, {2}, 3}`, "int [2][2][2] | 0 int 0.0 | 4 int 1.0.0.0 | 8 int 2.0"},
		{`int a[2][2][2] = {1, 2, {3, 4}, 5}`, "int [2][2][2] | 0 int 0.0 | 4 int 1.0 | 8 int 2.0.0.0 | 12 int 2.0.1.0 | 16 int 3.0"},
		{`int a[2][2][2] = {1, 2, {3}, {4}}`, "int [2][2][2] | 0 int 0.0 | 4 int 1.0 | 8 int 2.0.0.0 | 16 int 3.0.0.0"},
		{`int a[2][2][2] = {1, {2, 3}}`, "error 90"},
		{`int a[2] = {1, 2, 3}`, "error 90"},
		{`int a[2][1] = {1, 2, 3}`, "error 90"},
		{`int a[2][2] = {{1, 2, 3}, 4}`, "error 90"},
		{`int a[2][2][1] = {1, 2, 3, 4, 5}`, "error 90"},
		{`struct S {struct T {int x, y;} a; int z;} s = {1, 2, 3}`, "struct S | 0 int 0.0 | 4 int 1.0 | 8 int 2.0"},
		{`struct S {struct T {int x, y;} a; int z;} s = {1, 2, 3, 4}`, "error 90"},
		{`struct S {struct T {int x, y;} a; int z;} s = {{1, 2}, 3}`, "struct S | 0 int 0.0.0.0 | 4 int 0.0.1.0 | 8 int 1.0"},
		{`struct S {char c; struct T {short s[2]; char d;} t[2]; int z;} s = {1, 2, 3, 4, 5, 6, 7, 8}`,
			"struct S | 0 char 0.0 | 2 short 1.0 | 4 short 2.0 | 6 char 3.0 | 8 short 4.0 | 10 short 5.0 | 12 char 6.0 | 16 int 7.0"},
	})
}

// nested has parts at three levels: a at 0, t at 4 and 20 (b at 0, 4, 8 of them, c at 12), d at 36.
const nested = "struct S {int a; struct T {int b[3]; int c;} t[2]; int d;} s = "

// TestP9_3Designators: designators of one, two and three steps, and what comes behind them without one.
func TestP9_3Designators(t *testing.T) {
	wantTold(t, []example{
		{nested + `{.d = 1}`, "struct S | 36 int 0.1"},
		{nested + `{.a = 1, 2}`, "struct S | 0 int 0.1 | 4 int 1.0"},
		{nested + `{.t = {1}, 2}`, "struct S | 4 int 0.1.0.0 | 36 int 1.0"},
		{nested + `{.t = 1, 2}`, "struct S | 4 int 0.1 | 8 int 1.0"},
		{nested + `{.t[1] = {1}, 2}`, "struct S | 20 int 0.2.0.0 | 36 int 1.0"},
		{nested + `{.t[0] = {1}, 2}`, "struct S | 4 int 0.2.0.0 | 20 int 1.0"},
		{nested + `{.t[1] = 1, 2, 3, 4, 5}`, "struct S | 20 int 0.2 | 24 int 1.0 | 28 int 2.0 | 32 int 3.0 | 36 int 4.0"},
		{nested + `{.t[0].c = 1, 2}`, "struct S | 16 int 0.3 | 20 int 1.0"},
		{nested + `{.t[1].c = 1, 2}`, "struct S | 32 int 0.3 | 36 int 1.0"},
		{nested + `{.t[1].c = 1, 2, 3}`, "error 90"},
		{nested + `{.t[1].b[1] = 1, 2, 3, 4}`, "struct S | 24 int 0.4 | 28 int 1.0 | 32 int 2.0 | 36 int 3.0"},
		{nested + `{.t[1].b[2] = 1, 2, 3, 4}`, "error 90"},
		{nested + `{.t[0].b = {1, 2}, 3, 4}`, "struct S | 4 int 0.3.0.0 | 8 int 0.3.1.0 | 16 int 1.0 | 20 int 2.0"},
		{nested + `{.t[0] = {.b[1] = 1, 2, 3}, {.c = 4}}`, "struct S | 8 int 0.2.0.2 | 12 int 0.2.1.0 | 16 int 0.2.2.0 | 32 int 1.0.0.1"},
		{nested + `{1, 2, .d = 3}`, "struct S | 0 int 0.0 | 4 int 1.0 | 36 int 2.1"},
		{nested + `{.d = 1, 2}`, "error 90"},
		{`int a[2][2] = {[0][1] = 1, 2}`, "int [2][2] | 4 int 0.2 | 8 int 1.0"},
		{`int a[2][2] = {[1] = 1, 2}`, "int [2][2] | 8 int 0.1 | 12 int 1.0"},
		{`int a[2][2] = {[1] = {1}, 2}`, "error 90"},
		{`struct S {struct T {int x, y;} a; int z;} s = {.a.y = 1, 2}`, "struct S | 4 int 0.2 | 8 int 1.0"},
	})
}

// TestP9_3Again: designators that go backwards, and to parts that were initialised before.
func TestP9_3Again(t *testing.T) {
	wantTold(t, []example{
		{nested + `{.d = 1, .a = 2, 3}`, "struct S | 36 int 0.1 | 0 int 1.1 | 4 int 2.0"},
		{nested + `{1, .a = 2, .a = 3}`, "struct S | 0 int 0.0 | 0 int 1.1 | 0 int 2.1"},
		{nested + `{.t[1].b[2] = 1, .t[1].b[0] = 2, 3, 4}`, "struct S | 28 int 0.4 | 20 int 1.4 | 24 int 2.0 | 28 int 3.0"},
		{nested + `{.t[1].b[2] = 1, .t[0] = {2}, .t[1] = {.c = 3}}`, "struct S | 28 int 0.4 | 4 int 1.2.0.0 | 32 int 2.2.0.1"},
		{nested + `{1, 2, 3, .t = {4}, 5}`, "struct S | 0 int 0.0 | 4 int 1.0 | 8 int 2.0 | 4 int 3.1.0.0 | 36 int 4.0"},
		{`int a[3] = {[2] = 1, [1] = 2, 3, [0] = 4}`, "int [3] | 8 int 0.1 | 4 int 1.1 | 8 int 2.0 | 0 int 3.1"},
		{`int a[3] = {[2] = 1, [1] = 2, 3, 4}`, "error 90"},
		{`int a[3] = {1, 2, 3, [0] = 4}`, "int [3] | 0 int 0.0 | 4 int 1.0 | 8 int 2.0 | 0 int 3.1"},
		{`struct I {int x, y;} i; struct S {struct I a; int z;} s = {.a.y = 1, .a = i, .a.x = 2, 3, 4}`,
			"struct S | 4 int 0.2 | 0 struct I 1.1 | 0 int 2.2 | 4 int 3.0 | 8 int 4.0"},
	})
}

// TestP9_3Unions: a union is initialised by its first member that has a name, or by any that is designated; none comes behind it.
func TestP9_3Unions(t *testing.T) {
	const union = "union U {int a; struct T {char x, y;} b; char c;} u = "
	const within = "struct S {union U {int a; char b[4];} u; int z;} s = "
	wantTold(t, []example{
		{union + `{1}`, "union U | 0 int 0.0"},
		{union + `{1, 2}`, "error 90"},
		{union + `{.a = 1}`, "union U | 0 int 0.1"},
		{union + `{.b = {1, 2}}`, "union U | 0 char 0.1.0.0 | 1 char 0.1.1.0"},
		{union + `{.b = 1, 2}`, "union U | 0 char 0.1 | 1 char 1.0"},
		{union + `{.b.y = 1}`, "union U | 1 char 0.2"},
		{union + `{.b.x = 1, 2}`, "union U | 0 char 0.2 | 1 char 1.0"},
		{union + `{.b.y = 1, 2}`, "error 90"},
		{union + `{.c = 1}`, "union U | 0 char 0.1"},
		{union + `{.c = 1, 2}`, "error 90"},
		{union + `{.a = 1, 2}`, "error 90"},
		{union + `{.c = 1, .a = 2, .b.y = 3}`, "union U | 0 char 0.1 | 0 int 1.1 | 1 char 2.2"},
		{union + `{.d = 1}`, "error 90"},
		{within + `{1, 2}`, "struct S | 0 int 0.0 | 4 int 1.0"},
		{within + `{{1}, 2}`, "struct S | 0 int 0.0.0.0 | 4 int 1.0"},
		{within + `{{.b = "abc"}, 2}`, "struct S | 0 char [4] 0.0.0.1 | 4 int 1.0"},
		{within + `{.u.b = {1, 2}, 2}`, "struct S | 0 char 0.2.0.0 | 1 char 0.2.1.0 | 4 int 1.0"},
		{within + `{.u.b[1] = 1, 2, 3, 4}`, "struct S | 1 char 0.3 | 2 char 1.0 | 3 char 2.0 | 4 int 3.0"},
		{within + `{1, 2, 3}`, "error 90"},
		{within + `{{1, 2}, 3}`, "error 90"},
		{`union U {int a; char b;} a[] = {1, 2, [1].b = 3, 4}`, "union U [3] | 0 int 0.0 | 4 int 1.0 | 4 char 2.2 | 8 int 3.0"},
		{`union U {int : 3; char c; int d;} u = {1}`, "union U | 0 char 0.0"},
		{`union U {int : 3; int c : 5; int d;} u = {1}`, "union U | 0:0+5 int 0.0"},
		{`union U {int c; int d : 5;} u = {.d = 1}`, "union U | 0:0+5 int 0.1"},
	})
}

// TestP9_3Nameless: what has no name is no part.
func TestP9_3Nameless(t *testing.T) {
	const some = "struct S {int : 3; int a : 4; int : 0; int b : 5; int : 2; int c;} s = "
	wantTold(t, []example{
		{some + `{1, 2, 3}`, "struct S | 0:3+4 int 0.0 | 4:0+5 int 1.0 | 8 int 2.0"},
		{some + `{1, 2, 3, 4}`, "error 90"},
		{some + `{.b = 1, 2}`, "struct S | 4:0+5 int 0.1 | 8 int 1.0"},
		{some + `{.a = 1, 2, 3}`, "struct S | 0:3+4 int 0.1 | 4:0+5 int 1.0 | 8 int 2.0"},
		{some + `{.c = 1, 2}`, "error 90"},
		{`struct S {int : 3;} s = {1}`, "error 90"},
		{`struct S {int : 3;} s = none`, "struct S"},
		{`union U {int : 3;} u = {1}`, "error 90"},
		{`union U {int : 3;} u = none`, "union U"},
		{`struct S {union U {int : 3;} u; int z;} s = {1}`, "error 90"},
		{`struct S {union U {int : 3;} u; int z;} s = {.u = 1}`, "error 90"},
		{`struct S {struct T {int : 3;} t; int z;} s = {1, 2}`, "error 90"},
		{`struct S {struct T {int : 3;} t; int z;} s = {none, 1}`, "struct S | 4 int 1.0"},
		{`struct S {struct T {int : 3;} t; int z;} s = {{1}, 1}`, "error 90"},
		{`struct S {struct T {int : 3;} t; int z;} s = {.z = 1}`, "struct S | 4 int 0.1"},
		{`struct T {int : 3;} t; struct S {struct T t; int z;} s = {t, 1}`, "struct S | 0 struct T 0.0 | 4 int 1.0"},
		{`struct T {int : 3;} t; struct T s = t`, "struct T | 0 struct T"},
		{`struct S {int a; struct T {int : 3;} t[2]; int z;} s = {1, 2}`, "error 90"},
		{`struct S {int a; struct T {int : 3;} t[2]; int z;} s = {1, {none}, 2}`, "struct S | 0 int 0.0 | 8 int 2.0"},
	})
}

// TestP9_3WrongDesignators: designators of the wrong kind, of members that are not there, below 0 and past the end, and into what is no aggregate.
func TestP9_3WrongDesignators(t *testing.T) {
	wantTold(t, []example{
		{`int a[2] = {.x = 1}`, "error 90"},
		{`int a[] = {.x = 1}`, "error 90"},
		{`int a[2] = {[2] = 1}`, "error 90"},
		{`int a[2] = {[1] = 1}`, "int [2] | 4 int 0.1"},
		{`int a[2] = {[-1] = 1}`, "error 90"},
		{`int a[] = {[-1] = 1}`, "error 90"},
		{`int a[2] = {[0][0] = 1}`, "error 90"},
		{`int a[2] = {[0].x = 1}`, "error 90"},
		{`int a[2][2] = {[0][2] = 1}`, "error 90"},
		{`int a[2][2] = {[2][0] = 1}`, "error 90"},
		{`int a[2][2] = {[0][0][0] = 1}`, "error 90"},
		{`int *a[2] = {[0][0] = 1}`, "error 90"},
		{`struct S {int a;} s = {[0] = 1}`, "error 90"},
		{`struct S {int a;} s = {.b = 1}`, "error 90"},
		{`struct S {int a;} s = {.a.a = 1}`, "error 90"},
		{`struct S {int a;} s = {.a[0] = 1}`, "error 90"},
		{`struct S {int a : 3;} s = {.a.a = 1}`, "error 90"},
		{`struct S {int a : 3;} s = {.a[0] = 1}`, "error 90"},
		{`union U {int a;} u = {[0] = 1}`, "error 90"},
		{`union U {int a;} u = {.a.a = 1}`, "error 90"},
		{`struct T {int x;} *p; struct S {struct T *p;} s = {.p.x = 1}`, "error 90"},
		{`struct S {struct T {int x;} t;} s = {.t.y = 1}`, "error 90"},
		{`struct S {struct T {int x;} t;} s = {.x = 1}`, "error 90"},
		{`struct S {struct T {int x;} t;} s = {.t = {.t = 1}}`, "error 90"},
		{`struct S {struct T {int x;} t;} s = {1, .u = 1}`, "error 90"},
	})
}

// TestP9_3Untold: an array whose length is not told has as many elements as its greatest place asks for, wherever that was met.
func TestP9_3Untold(t *testing.T) {
	const records = "struct S {int a; char b;} s[] = "
	wantTold(t, []example{
		{`int a[] = {1}`, "int [1] | 0 int 0.0"},
		{`int a[] = {1, 2, 3}`, "int [3] | 0 int 0.0 | 4 int 1.0 | 8 int 2.0"},
		{`int a[] = {[3] = 1, 2}`, "int [5] | 12 int 0.1 | 16 int 1.0"},
		{`int a[] = {[3] = 1, [0] = 2, 3}`, "int [4] | 12 int 0.1 | 0 int 1.1 | 4 int 2.0"},
		{`int a[] = {1, [3] = 2, [1] = 3}`, "int [4] | 0 int 0.0 | 12 int 1.1 | 4 int 2.1"},
		{`int a[] = {[1] = 2, [0] = 3, 4, 5}`, "int [3] | 4 int 0.1 | 0 int 1.1 | 4 int 2.0 | 8 int 3.0"},
		{`int a[][2] = {1, 2, 3}`, "int [2][2] | 0 int 0.0 | 4 int 1.0 | 8 int 2.0"},
		{`int a[][2] = {{1}, {2}, 3}`, "int [3][2] | 0 int 0.0.0.0 | 8 int 1.0.0.0 | 16 int 2.0"},
		{`int a[][2] = {[2][1] = 1, 2, [0][1] = 3}`, "int [4][2] | 20 int 0.2 | 24 int 1.0 | 4 int 2.2"},
		{records + `{1, 2, 3}`, "struct S [2] | 0 int 0.0 | 4 char 1.0 | 8 int 2.0"},
		{records + `{[1].b = 1, 2}`, "struct S [3] | 12 char 0.2 | 16 int 1.0"},
		{records + `{[1] = {1}, 2, [0] = {.b = 3}}`, "struct S [3] | 8 int 0.1.0.0 | 16 int 1.0 | 4 char 2.1.0.1"},
		{`int *a[] = {0, 0}`, "int *[2] | 0 int * 0.0 | 4 int * 1.0"},
		{`char a[] = {1, 2}`, "char [2] | 0 char 0.0 | 1 char 1.0"},
		{`char a[3]; char b[] = "ab"`, "char [3] | 0 char [3]"},
	})
}

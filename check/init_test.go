package check

import (
	"strings"
	"testing"

	"mortise/api"
)

// TestP10_1Globals: what objects of static storage have at first.
func TestP10_1Globals(t *testing.T) {
	globals(t, []sample{
		{`char c = 300; unsigned char d = -1; short e = 65537; unsigned f = -1; _Bool g = 256, h = 0; long i = 'a'; enum { A = 7 } j = A; int k = { 5 };`, `c char = 2c; d unsigned char = ff; e short = 01 00; f unsigned int = ff ff ff ff; g _Bool = 01; h _Bool = 00; i long = 61 00 00 00; j enum #1 = 07 00 00 00; k int = 05 00 00 00`},
		{`char a[] = "ab", b[4] = "ab", c[2] = "ab", d[] = { "x" }, e[2][3] = { "ab", "c" }; unsigned char f[] = "\377"; signed char g[3] = "\1\0\2";`, `a char [3] = 61 62 00; b char [4] = 61 62 00 00; c char [2] = 61 62; d char [2] = 78 00; e char [2][3] = 61 62 00 63 00 00; f unsigned char [2] = ff 00; g signed char [3] = 01 00 02`},
		{`char *a = "ab", *b[] = { "c", "d" }; struct { char *p; int n; } c = { "e", 3 };`, `a char * = 00 00 00 00 +0:1+0; char [3] = 61 62 00; b char *[2] = 00 00 00 00 00 00 00 00 +0:3+0 +4:4+0; char [2] = 63 00; char [2] = 64 00; c struct #1 = 00 00 00 00 03 00 00 00 +0:6+0; char [2] = 65 00`},
		{`char a[] = ""; char b[3] = "";`, `a char [1] = 00; b char [3] = 00 00 00`},
		{`struct S { int a : 3; unsigned b : 5; char c; int *p; } x = { 5, 33, 'c', 0 }, y = { .c = 1, .a = -1 }, z[2] = { [1] = { .b = 1 } };`, `x struct S = 0d 63 00 00 00 00 00 00; y struct S = 07 01 00 00 00 00 00 00; z struct S [2] = 00 00 00 00 00 00 00 00 08 00 00 00 00 00 00 00`},
		{`union U { int n; char z[6]; } x = { 258 }, y = { .z = "abc" };`, `x union U = 02 01 00 00 00 00 00 00; y union U = 61 62 63 00 00 00 00 00`},
		{`int a[] = { [3] = 1, 2 }, b[2][2] = { 1, 2, 3 }, c[2][2] = { { 1 }, 2 }, d[3] = { [1] = 5, [1] = 6, [0] = 7 };`, `a int [5] = 00 00 00 00 00 00 00 00 00 00 00 00 01 00 00 00 02 00 00 00; b int [2][2] = 01 00 00 00 02 00 00 00 03 00 00 00 00 00 00 00; c int [2][2] = 01 00 00 00 00 00 00 00 02 00 00 00 00 00 00 00; d int [3] = 07 00 00 00 06 00 00 00 00 00 00 00`},
		{`int x; int *p = &x, *q = &x + 1, *r = 0, *s = (int *)0, *t = (void *)0; void *u = &x, *v = (char *)&x + 3;`, `x int = 00 00 00 00; p int * = 00 00 00 00 +0:0+0; q int * = 00 00 00 00 +0:0+4; r int * = 00 00 00 00; s int * = 00 00 00 00; t int * = 00 00 00 00; u void * = 00 00 00 00 +0:0+0; v void * = 00 00 00 00 +0:0+3`},
		{`int a[3]; int *p = a, *q = a + 3, *r = &a[2], *s = &a[3] - 1, *t = 1 + a; int (*u)[3] = &a, (*v)[3] = &a + 1; char *w = (char *)a + 12, *x = (char *)(a + 1) + 3;`, `a int [3] = 00 00 00 00 00 00 00 00 00 00 00 00; p int * = 00 00 00 00 +0:0+0; q int * = 00 00 00 00 +0:0+12; r int * = 00 00 00 00 +0:0+8; s int * = 00 00 00 00 +0:0+8; t int * = 00 00 00 00 +0:0+4; u int (*)[3] = 00 00 00 00 +0:0+0; v int (*)[3] = 00 00 00 00 +0:0+12; w char * = 00 00 00 00 +0:0+12; x char * = 00 00 00 00 +0:0+7`},
		{`struct S { char c; int v[2]; struct T { short x, y; } t; } s[2]; short *p = &s[1].t.y; int *q = s[1].v, *r = &(*s).v[1], *x = &(s + 1)->v[2]; char *y = &s->c; struct T *z = &(&s[1])->t; void *w = s + 2;`, `s struct S [2] = 00 00 00 00 00 00 00 00 00 00 00 00 00 00 00 00 00 00 00 00 00 00 00 00 00 00 00 00 00 00 00 00; p short * = 00 00 00 00 +0:0+30; q int * = 00 00 00 00 +0:0+20; r int * = 00 00 00 00 +0:0+8; x int * = 00 00 00 00 +0:0+28; y char * = 00 00 00 00 +0:0+0; z struct T * = 00 00 00 00 +0:0+28; w void * = 00 00 00 00 +0:0+32`},
		{`int m[2][3]; int *p = m[1], *q = *m, *r = &m[1][2], (*s)[3] = m + 2; int *t = *(m + 1) + 3;`, `m int [2][3] = 00 00 00 00 00 00 00 00 00 00 00 00 00 00 00 00 00 00 00 00 00 00 00 00; p int * = 00 00 00 00 +0:0+12; q int * = 00 00 00 00 +0:0+0; r int * = 00 00 00 00 +0:0+20; s int (*)[3] = 00 00 00 00 +0:0+24; t int * = 00 00 00 00 +0:0+24`},
		{`void *a[] = { a, &a, a + 3 };`, `a void *[3] = 00 00 00 00 00 00 00 00 00 00 00 00 +0:0+0 +4:0+0 +8:0+12`},
		{`void *a[] = { (char *)a + 8, "x" };`, `a void *[2] = 00 00 00 00 00 00 00 00 +0:0+8 +4:1+0; char [2] = 78 00`},
		{`int *p = (int[]){1, 2, 3}, *q = (int[3]){[1] = 4} + 1; struct T { short x, y; } *t = &(struct T){5, 6}; int *r = &(int){7}; char **s = (char *[]){"ab", 0};`, `p int * = 00 00 00 00 +0:1+0; int [3] = 01 00 00 00 02 00 00 00 03 00 00 00; q int * = 00 00 00 00 +0:3+4; int [3] = 00 00 00 00 04 00 00 00 00 00 00 00; t struct T * = 00 00 00 00 +0:5+0; struct T = 05 00 06 00; r int * = 00 00 00 00 +0:7+0; int = 07 00 00 00; s char ** = 00 00 00 00 +0:9+0; char *[2] = 00 00 00 00 00 00 00 00 +0:10+0; char [3] = 61 62 00`},
		{`char *p = "abc" + 1, *q = &"abc"[2], c = sizeof "abcd"; char (*r)[3] = &"ab";`, `p char * = 00 00 00 00 +0:1+1; char [4] = 61 62 63 00; q char * = 00 00 00 00 +0:3+2; char [4] = 61 62 63 00; c char = 05; r char (*)[3] = 00 00 00 00 +0:6+0; char [3] = 61 62 00`},
		{`int x = sizeof (int[]){1, 2}, y = sizeof "abc", z;`, `x int = 08 00 00 00; y int = 04 00 00 00; z int = 00 00 00 00`},
		{`struct L { struct L *next; int n; } a, b = { &a, 1 }, a2 = { &b, 2 };`, `a struct L = 00 00 00 00 00 00 00 00; b struct L = 00 00 00 00 01 00 00 00 +0:0+0; a2 struct L = 00 00 00 00 02 00 00 00 +0:1+0`},
		{`int x = 1 + 2 * 3 - 4 / 2 % 3, y = (1 << 4 | 3) ^ 5 & 7, z = -1 >> 1, w = ~0u >> 28, v = 1 < 2 && 2 >= 2 || 0, u = !3 + (2 != 2), t = 1 ? 10 : 20, s = 0 ? 10 : 20;`, `x int = 05 00 00 00; y int = 16 00 00 00; z int = ff ff ff ff; w int = 0f 00 00 00; v int = 01 00 00 00; u int = 00 00 00 00; t int = 0a 00 00 00; s int = 14 00 00 00`},
		{`int x[] = { !0, !1, 0 || 0, 0 || 1, 1 || 0, 2 || 3, 0 && 0, 0 && 1, 1 && 0, 2 && 3, 5 == 5, 5 != 5, -1 < 1u, -1 < 1, 3 > 2, 2 >= 3 };`, `x int [16] = 01 00 00 00 00 00 00 00 00 00 00 00 01 00 00 00 01 00 00 00 01 00 00 00 00 00 00 00 00 00 00 00 00 00 00 00 01 00 00 00 01 00 00 00 00 00 00 00 00 00 00 00 01 00 00 00 01 00 00 00 00 00 00 00`},
		{`unsigned x = 4294967295u, y = 0x80000000; long z = -2147483647L - 1; unsigned long w = -1L;`, `x unsigned int = ff ff ff ff; y unsigned int = 00 00 00 80; z long = 00 00 00 80; w unsigned long = ff ff ff ff`},
		{`int f(void) { static int x = 5, *p = &x; static char s[] = "ab", *q = s + 1; return 0; }`, `x int = 05 00 00 00; p int * = 00 00 00 00 +0:0+0; s char [3] = 61 62 00; q char * = 00 00 00 00 +0:2+1`},
		{`struct { char c; int : 8; unsigned f : 4, : 4, g : 4; } x = { 1, 2, 3 };`, `x struct #1 = 01 00 02 03`},
		{`int a[2] = { 1 }, *p[2] = { [1] = a + 1 }; struct { int *p; char q[4]; } s[] = { { a, "x" }, { .q = "yz" } };`, `a int [2] = 01 00 00 00 00 00 00 00; p int *[2] = 00 00 00 00 00 00 00 00 +4:0+4; s struct #1 [2] = 00 00 00 00 78 00 00 00 00 00 00 00 79 7a 00 00 +0:0+0`},
		{`struct { int a[2]; int b; } x = { .a = { 1 }, .a[1] = 2, 3 };`, `x struct #1 = 01 00 00 00 02 00 00 00 03 00 00 00`},
		{`int x = (char)200, y = (unsigned char)200, z = (short)40000, w = (_Bool)5, v = (int)4294967295u;`, `x int = c8 ff ff ff; y int = c8 00 00 00; z int = 40 9c ff ff; w int = 01 00 00 00; v int = ff ff ff ff`},
	})
}

// TestP10_1Locals begins the locals of a function.
func TestP10_1Locals(t *testing.T) {
	bodiesOf(t, []sample{
		{`int x`, `Fresh#0`},
		{`int x, y`, `Fresh#0 Fresh#1`},
		{`char x[3]`, `Fresh#0`},
		{`struct S x`, `Fresh#0`},
		{`int x = 5`, `Zero#0 Expr(Set(Part.0(L0) 5))`},
		{`char x = 300`, `Zero#0 Expr(Set(Part.0<char>(L0<char>) Conv<char>(300)))`},
		{`int x = { i }`, `Zero#0 Expr(Set(Part.0(L0) Read(i)))`},
		{`int *x = 0`, `Zero#0 Expr(Set(Part.0<int *>(L0<int *>) 0<int *>))`},
		{`int *x = a`, `Zero#0 Expr(Set(Part.0<int *>(L0<int *>) Addr<int *>(a<int [3]>)))`},
		{`void *x = p`, `Zero#0 Expr(Set(Part.0<void *>(L0<void *>) Conv<void *>(Read(p<int *>))))`},
		{`struct T x = t`, `Zero#0 Expr(Set(Part.0<struct T>(L0<struct T>) Read(t<struct T>)))`},
		{`struct T x = { 1, 2 }`, `Zero#0 Expr(Set(Part.0<short>(L0<struct T>) Conv<short>(1))) Expr(Set(Part.2<short>(L0<struct T>) Conv<short>(2)))`},
		{`struct T x = { .y = i }, y = x`, `Zero#0 Expr(Set(Part.2<short>(L0<struct T>) Conv<short>(Read(i)))) Zero#1 Expr(Set(Part.0<struct T>(L1<struct T>) Read(L0<struct T>)))`},
		{`struct S x = { .b = 9, .v = { 1, i }, .t.y = c }`, `Zero#0 Expr(Set(Part.0:3+5<unsigned int>(L0<struct S>) Conv<unsigned int>(9))) Expr(Set(Part.8(L0<struct S>) 1)) Expr(Set(Part.12(L0<struct S>) Read(i))) Expr(Set(Part.18<short>(L0<struct S>) Conv<short>(Read(c<char>))))`},
		{`union N x = { .z[1] = 2 }`, `Zero#0 Expr(Set(Part.1<char>(L0<union N>) Conv<char>(2)))`},
		{`int x[] = { 1, i }`, `Zero#0 Expr(Set(Part.0(L0<int [2]>) 1)) Expr(Set(Part.4(L0<int [2]>) Read(i)))`},
		{`int x[2] = { 1, [0] = 2 }`, `Zero#0 Expr(Set(Part.0(L0<int [2]>) 1)) Expr(Set(Part.0(L0<int [2]>) 2))`},
		{`int x[2][2] = { { 1 }, { 2 } }`, `Zero#0 Expr(Set(Part.0(L0<int [2][2]>) 1)) Expr(Set(Part.8(L0<int [2][2]>) 2))`},
		{`char x[] = "ab"`, `Zero#0 Expr(Set(Part.0<char>(L0<char [3]>) 97<char>)) Expr(Set(Part.1<char>(L0<char [3]>) 98<char>))`},
		{`char x[5] = { "a\0b" }`, `Zero#0 Expr(Set(Part.0<char>(L0<char [5]>) 97<char>)) Expr(Set(Part.2<char>(L0<char [5]>) 98<char>))`},
		{`unsigned char x[2] = "\377\1"`, `Zero#0 Expr(Set(Part.0<unsigned char>(L0<unsigned char [2]>) 255<unsigned char>)) Expr(Set(Part.1<unsigned char>(L0<unsigned char [2]>) 1<unsigned char>))`},
		{`char x[2][3] = { "ab", "c" }`, `Zero#0 Expr(Set(Part.0<char>(L0<char [2][3]>) 97<char>)) Expr(Set(Part.1<char>(L0<char [2][3]>) 98<char>)) Expr(Set(Part.3<char>(L0<char [2][3]>) 99<char>))`},
		{`char x[1][2] = { { 1, 2 }, [0] = "a" }`, `Zero#0 Expr(Set(Part.0<char>(L0<char [1][2]>) Conv<char>(1))) Expr(Set(Part.1<char>(L0<char [1][2]>) Conv<char>(2))) Expr(Set(Part.0<char>(L0<char [1][2]>) 97<char>))`},
		{`struct { char n[4]; int v; } x = { "ab", 7 }`, `Zero#0 Expr(Set(Part.0<char>(L0<struct #1>) 97<char>)) Expr(Set(Part.1<char>(L0<struct #1>) 98<char>)) Expr(Set(Part.4(L0<struct #1>) 7))`},
		{`char *x = "ab"`, `Zero#0 Expr(Set(Part.0<char *>(L0<char *>) Addr<char *>(G25<char [3]>)))`},
		{`char *x[] = { "ab", "ab" }`, `Zero#0 Expr(Set(Part.0<char *>(L0<char *[2]>) Addr<char *>(G25<char [3]>))) Expr(Set(Part.4<char *>(L0<char *[2]>) Addr<char *>(G26<char [3]>)))`},
		{`int x = sizeof x`, `Zero#0 Expr(Set(Part.0(L0) Conv(4<unsigned int>)))`},
		{`int x = x + 1`, `Zero#0 Expr(Set(Part.0(L0) Bin:add(Read(L0) 1)))`},
		{`int x[] = { 1, *x }`, `Zero#0 Expr(Set(Part.0(L0<int [2]>) 1)) Expr(Set(Part.4(L0<int [2]>) Read(Deref(Addr<int *>(L0<int []>)))))`},
		{`static int x = 5`, ``},
		{`static int x`, ``},
		{`typedef int X`, ``},
		{`struct X { int a; }`, ``},
		{`enum { X } x = X`, `Zero#0 Expr(Set(Part.0<enum #1>(L0<enum #1>) Conv<enum #1>(0)))`},
		{`int x = 1; int y = x`, `Zero#0 Expr(Set(Part.0(L0) 1)) Zero#1 Expr(Set(Part.0(L1) Read(L0)))`},
		{`int x; { int x = 2; } x = 3`, `Fresh#0 Block(Zero#1 Expr(Set(Part.0(L1) 2))) Expr(Set(L0 3))`},
		{`int x = (int){4}`, `Zero#0 Expr(Set(Part.0(L0) Read(Lit#1(Set(Part.0(L1) 4)))))`},
		{`int *x = (int[]){1, 2}`, `Zero#0 Expr(Set(Part.0<int *>(L0<int *>) Addr<int *>(Lit#1<int [2]>(Set(Part.0(L1<int [2]>) 1) Set(Part.4(L1<int [2]>) 2)))))`},
		{`_Bool x = 2, y = !p`, `Zero#0 Expr(Set(Part.0<_Bool>(L0<_Bool>) Conv<_Bool>(2))) Zero#1 Expr(Set(Part.0<_Bool>(L1<_Bool>) Conv<_Bool>(Not(Read(p<int *>)))))`},
		{`struct T x[2] = { t, { 3 } }`, `Zero#0 Expr(Set(Part.0<struct T>(L0<struct T [2]>) Read(t<struct T>))) Expr(Set(Part.4<short>(L0<struct T [2]>) Conv<short>(3)))`},
		{`int x = { (char)i }, *y = &x`, `Zero#0 Expr(Set(Part.0(L0) Conv(Conv<char>(Read(i))))) Zero#1 Expr(Set(Part.0<int *>(L1<int *>) Addr<int *>(L0)))`},
	})
}

// TestP10_1ErrInit: initialisers that do not fit, at their object; designators below 0, at themselves.
func TestP10_1ErrInit(t *testing.T) {
	mainFaults(t, api.ErrInit,
		`int @x = "a";`, `int @x = { 1, 2 };`, `int @x = { { 1 } };`, `int @x[2] = { 1, 2, 3 };`, `int @x[2] = 1;`, `int @x[3] = a;`, `int @x[] = a;`, `int *@x = 1;`, `int *@x = i;`, `char *@x = &i;`, `int @x = p;`, `int @x = s;`, `struct T @x = 1;`, `struct T @x = s;`, `struct T @x = { t, 1 };`, `struct T @x = { .z = 1 };`, `int @x[2] = { [2] = 1 };`, `int @x = { [0] = 1 };`, `int @x[2] = { .a = 1 };`,
		`char @x[2] = "abc";`, `unsigned char @x[] = { "ab", 1 };`, `char *@x = { "a", "b" };`, `int *@x = "ab";`, `int @x[] = "ab";`, `_Bool @x = p;`, `struct S @x = { .b = p };`, `struct S @x = { .p = cp };`, `union N @x = { 1, 2 };`, `int y, @x = "a", z;`, `static int @x = "a";`, `static char *@x = &i;`, `static int @x[1] = { 1, 2 };`, `char @x = "a";`, `enum E @x = p;`, `struct T @x[1] = { t, t };`,
		`int x[] = { @[-1] = 1 };`, `int x[3] = { [0] = 1, @[1 - 2] = 1 };`, `struct { int v[2]; } x = { .v@[-1] = 1 };`, `int x = (int[]){ @[-5] = 1 }[0];`, `int x = { @[-1] = 1 };`,
		`@(int){"a"};`, `@(int){1, 2};`, `1 + @(struct T){s};`, `int x = @(int){p};`, `sizeof @(int *){1};`, `@(char[2]){"abc"};`, `int x = { @(int){"a"} };`,
	)
	unitFaults(t, api.ErrInit, `int @x = "a";`, `int *@p = 1;`, `int x; char *@p = &x;`, `int @a[1] = { 1, 2 };`, `int *p = @(int[1]){1, 2};`, `int *p = @(int[]){"a"};`, `struct { int *p; } @x = { 1 };`, `int @x = "a", y = z;`)
	unitFaults(t, api.ErrConst, `int x; int a[] = { [@x] = 1 };`, `int x; int a[3] = { [x @+ 1] = 1 };`, `int f(void) { int n = 1; int a[] = { [@n] = 1 }; }`)
	unitFaults(t, api.ErrZero, `int a[] = { [1 @/ 0] = 1 };`)
	unitFaults(t, api.ErrIncomplete, `struct O @x = { 1 };`, `void @x = 1;`, `int a[] = { @sizeof a };`, `struct O *p = &@(struct O){1};`, `int f(void) { void @x = 1; }`, `int f(void) { int a[] = { 1, @sizeof a }; }`)
	unitFaults(t, api.ErrLarge, `int @a[] = { [4096] = 1 };`, `struct L { int a[4097]; } @x = { 1 };`, `int @a[4097] = { 1 };`, `int f(void) { char @x[] = { [16384] = 1 }; }`)
	unitFaults(t, api.ErrName, `int x = { 1, 2, @y };`, `int a[1] = { 1, 2, 3, @y };`, `int x = { "a", @y };`, `struct S { int a; } x = { .z = 1, .a = @y };`)
	takesInMain(t, `int x[] = { [A] = 1, [B] = 2, [sizeof(int)] = 3, ['a' - 'A'] = 4 };`, `int x = { 1 };`, `char x[] = { 'a', "b"[0] };`, `char *x[2][2] = { "a", { "b" } };`, `struct T x = { t.x, t.y };`, `struct S x = gs(), y[2] = { gs(), s };`, `void *x = "a";`, `int x = (1, 2);`, `int *x = { 0 };`, `int *x = 1 - 1;`)
}

// TestP10_1LongTexts: strings with just MaxSize bytes, and one more.
func TestP10_1LongTexts(t *testing.T) {
	most := strings.Repeat("a", api.MaxSize-1)
	takes(t, `char *p = "`+most+`";`, `char p[] = "`+most+`";`, `char p[16384] = "`+most+`a";`, `int f(void) { return sizeof "`+most+`"; }`)
	unitFaults(t, api.ErrLarge, `char *p = @"`+most+`a";`, `char @p[] = "`+most+`a";`, `int f(void) { return sizeof @"`+most+`a"; }`, `int f(void) { @"`+most+`a"; }`, `char *p[] = { "b", @"`+most+`a" };`)
	unitFaults(t, api.ErrInit, `char @p[16384] = "`+most+`aa";`)
}

// TestP10_1ErrConst: what no object of static storage can have at first.
func TestP10_1ErrConst(t *testing.T) {
	unitFaults(t, api.ErrConst,
		`int x; int @y = x;`, `int x; int @y = x + 1;`, `int f(void) { return 0; } int @y = f();`, `int @y = getchar();`, `int x; int y[2] = { 1, 2 }, @z[2] = { 1, x };`, `int x; int *@p = &x ? &x : 0;`, `int x; int @y = &x == 0;`, `int a[3]; int @x = a[1];`, `int a[3]; int @x = &a[1] - a;`, `int x; int @y = (1, 2);`, `int x; int @y = sizeof x + x;`, `int x; int @y = (x = 1);`, `int x; int @y = x++;`, `int x; int @y = !&x;`, `int x; int @y = &x && 1;`, `int x; _Bool @y = (_Bool)&x;`, `int @y = !(void *)0;`, `int *@y = 1 ? (int *)0 : 0;`,
		`int @x = 1 / 0;`, `int @x = 1 % 0;`, `int @x = 0 && 1 / 0;`, `int @x = 1 ? 2 : 1 / 0;`, `int y, @x[2] = { 1, 1 / 0 };`,
		`struct S { int a; } s; struct S @t = s;`, `struct S { int a; } s; struct S @t[2] = { { 1 }, s };`, `struct S { int a; }; struct S @t = (struct S){1};`, `int @x = (int){1};`, `struct S { int a; }; int @x = (struct S){1}.a;`, `int *p; int *@q = p;`, `int *p; int *@q = p + 1;`, `int *p; int *@q = &*p;`, `int *p; int *@q = &p[1];`, `struct S { int *p; } s; int *@q = s.p;`, `struct S { int a; } *p; int *@q = &p->a;`, `int **p; int *@q = *p;`,
		`int i; int a[3]; int *@q = a + i;`, `int i; int a[3]; int *@q = &a[i];`, `int a[3]; int *@q = &a[1 / 0];`, `int *@q = (int *)0 + 1;`, `struct S { int a, b; }; int *@q = &((struct S *)0)->b;`, `int a[2]; int *@p = (a, a);`, `int a[2]; int *@p = 1 ? a : a;`, `char *@p = getchar() ? "a" : "b";`,
		`int f(void) { int x; static int *@p = &x; }`, `int f(int a) { static int @x = a; }`, `int f(void) { static int *@p = (int[]){1}; }`, `int f(void) { static int @x = getchar(); }`, `struct S { int a; } g(void); int f(void) { static int @x = g().a; }`, `int f(void) { static struct S { int a; } s, @t = s; }`,
		`int *p = @(int[]){getchar()};`, `int x; int *p = @(int[]){1, x};`, `int x = sizeof @(int[]){getchar()};`,
		`struct S { int a; } g(void); int x = g()@.a;`, `struct S { int a; } g(void); int x = sizeof g()@.a;`, `struct S { int a; } s, t; int x = (1 ? s : t)@.a;`, `struct S { int a[2]; } g(void); int *x = g()@.a;`, `struct S { int a; } g(void); int x[] = { [g()@.a] = 1 };`,
	)
	unitFaults(t, api.ErrName, `struct S { int a; } g(void); int x = g()@.b;`)
	unitFaults(t, api.ErrOperand, `int g(void); int x = g()@.b;`)
}

// TestP10_1AddressEdges: addresses from an object's first byte to the one behind its last.
func TestP10_1AddressEdges(t *testing.T) {
	const ahead = `int a[3]; char c; struct S { char c; int v[2]; } s, t[2]; int m[2][3]; struct O *o; `
	for _, e := range []string{`a`, `a + 3`, `&a[3]`, `&a[0]`, `3 + a`, `&a + 1`, `(char *)a + 12`, `(char *)(a + 3) - 12`, `&c`, `&c + 1`, `&s`, `&s + 1`, `&s.v`, `s.v + 2`, `&s.v[2]`, `&s.v + 1`, `&t[1].v[2]`, `t + 2`, `t[1].v + 2`, `m + 2`, `m[1] + 3`, `m[2]`, `&m[2][0]`, `*m + 6`, `&t[2].c`, `(char *)&s + 12`, `a + 2147483647 - 2147483647`, `a - 0`, `a + 4 - 4`} {
		takes(t, ahead+`void *p = `+e+`;`, ahead+`int f(void) { static void *p = `+e+`; return 0; }`)
	}
	for _, e := range []string{`a + 4`, `a - 1`, `&a[4]`, `&a[-1]`, `&a + 2`, `&a - 1`, `(char *)a + 13`, `(char *)a - 1`, `&c + 2`, `&c - 1`, `&s + 2`, `s.v + 3`, `&s.v[-2]`, `&t[2].v`, `t + 3`, `m[2] + 1`, `m + 3`, `m - 1`, `&t[2].v[0]`, `(char *)&s + 13`, `a + 1073741824`, `a + 2147483647`, `a - 2147483647`, `(char *)a + 4294967295u`, `o`, `&((struct S *)&c)->v`} {
		unitFaults(t, api.ErrConst, ahead+`void *@p = `+e+`;`)
	}
	takes(t, `void *a[] = { a + 2, 0 };`, `char *a[] = { "x", (char *)a + 8 };`, `void *a[2] = { a + 2 };`, `char *p = "abc" + 4, *q = &"abc"[4];`, `int *p = (int[]){1, 2} + 2;`, `struct S { struct S *p; int n; } a[] = { { a + 3, 1 }, { &a[1] }, { a, 2 } };`)
	unitFaults(t, api.ErrConst, `void *@a[] = { a + 3, 0 };`, `char *@a[] = { "x", (char *)a + 9 };`, `char *@p = "abc" + 5;`, `int *@p = (int[]){1, 2} + 3;`, `void *a[] = { @(void *[]){a} };`, `void *a[] = { @(void *[]){a}, 0 };`)
}

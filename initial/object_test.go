package initial

import "testing"

// TestP9_2Literals: a string literal, bare or as the one item of a list, initialises a character array.
func TestP9_2Literals(t *testing.T) {
	wantTold(t, []example{
		{`char a[] = "ab"`, "char [3] | 0 char [3]"},
		{`char a[] = {"ab"}`, "char [3] | 0 char [3] 0.0"},
		{`signed char a[] = "ab"`, "signed char [3] | 0 signed char [3]"},
		{`unsigned char a[] = {"ab"}`, "unsigned char [3] | 0 unsigned char [3] 0.0"},
		{`char a[] = ""`, "char [1] | 0 char [1]"},
		{`char a[4] = "ab"`, "char [4] | 0 char [4]"},
		{`char a[3] = "ab"`, "char [3] | 0 char [3]"},
		{`char a[2] = "ab"`, "char [2] | 0 char [2]"},
		{`char a[1] = "ab"`, "error 90"},
		{`char a[1] = ""`, "char [1] | 0 char [1]"},
		{`char a[2] = "abc"`, "error 90"},
		{`signed char a[2] = {"ab"}`, "signed char [2] | 0 signed char [2] 0.0"},
		{`unsigned char a[1] = {"ab"}`, "error 90"},
		{`char a[2] = "\0\0"`, "char [2] | 0 char [2]"},
		{`char a[2] = "\0\0\0"`, "error 90"},
		{`char a[] = "\0\0"`, "char [3] | 0 char [3]"},
	})
}

// TestP9_2LiteralsWithin: character arrays within others, literals within lists, with and without braces.
func TestP9_2LiteralsWithin(t *testing.T) {
	wantTold(t, []example{
		{`char a[2][3] = {"ab", "cde"}`, "char [2][3] | 0 char [3] 0.0 | 3 char [3] 1.0"},
		{`char a[2][3] = {{"ab"}, {"cd"}}`, "char [2][3] | 0 char [3] 0.0.0.0 | 3 char [3] 1.0.0.0"},
		{`char a[][3] = {"ab", "c"}`, "char [2][3] | 0 char [3] 0.0 | 3 char [3] 1.0"},
		{`char a[2][2][2] = {"a", "b", "c"}`, "char [2][2][2] | 0 char [2] 0.0 | 2 char [2] 1.0 | 4 char [2] 2.0"},
		{`char a[2][2][2] = {{"a"}, "b"}`, "char [2][2][2] | 0 char [2] 0.0.0.0 | 4 char [2] 1.0"},
		{`char a[2][1] = {"ab"}`, "error 90"},
		{`char a[2][3] = {{"ab", 1}}`, "char [2][3] | 0 char 0.0.0.0 | 1 char 0.0.1.0"},
		{`char a[2][3] = {{{"ab"}}}`, "char [2][3] | 0 char 0.0.0.0.0.0"},
		{`char a[2][3] = {"ab", 1, 2}`, "char [2][3] | 0 char [3] 0.0 | 3 char 1.0 | 4 char 2.0"},
		{`char a[2][3] = {1, "ab", "cd", 2}`, "char [2][3] | 0 char 0.0 | 1 char 1.0 | 2 char 2.0 | 3 char 3.0"},
		{`struct S {int n; char s[3];} v = {1, "ab"}`, "struct S | 0 int 0.0 | 4 char [3] 1.0"},
		{`struct S {int n; char s[3];} v = {.s = "abcd"}`, "error 90"},
		{`struct S {int n; char s[3];} v = {.s = {"abc"}}`, "struct S | 4 char [3] 0.1.0.0"},
		{`char a[] = {{"ab"}}`, "char [1] | 0 char 0.0.0.0"},
		{`char a[2] = {[0] = "ab"}`, "char [2] | 0 char 0.1"},
		{`char a[] = {[1] = "ab"}`, "char [2] | 1 char 0.1"},
		{`char a[] = {"ab", 1}`, "char [2] | 0 char 0.0 | 1 char 1.0"},
		{`char a[] = {1, "ab"}`, "char [2] | 0 char 0.0 | 1 char 1.0"},
		{`char a[1] = {"ab", "c"}`, "error 90"},
	})
}

// TestP9_2LiteralsElsewhere: what is no character array is no leaf by a literal; a scalar is.
func TestP9_2LiteralsElsewhere(t *testing.T) {
	wantTold(t, []example{
		{`char *p = "ab"`, "char * | 0 char *"},
		{`char *p = {"ab"}`, "char * | 0 char * 0.0"},
		{`int x = "ab"`, "int | 0 int"},
		{`char c = "ab"`, "char | 0 char"},
		{`struct S {int a : 3;} s = {"ab"}`, "struct S | 0:0+3 int 0.0"},
		{`int a[3] = "ab"`, "error 90"},
		{`_Bool a[3] = "ab"`, "error 90"},
		{`_Bool a[3] = {"ab"}`, "_Bool [3] | 0 _Bool 0.0"},
		{`short a[] = "ab"`, "error 90"},
		{`int a[] = "ab"`, "error 90"},
		{`int a[] = {"ab"}`, "int [1] | 0 int 0.0"},
		{`int a[2][2] = {"ab", "cd"}`, "int [2][2] | 0 int 0.0 | 4 int 1.0"},
		{`char *a[2] = {"ab", "cd"}`, "char *[2] | 0 char * 0.0 | 4 char * 1.0"},
		{`char *a[] = "ab"`, "error 90"},
		{`char a[2][3] = "ab"`, "error 90"},
		{`char a[][3] = "ab"`, "error 90"},
		{`struct S {char s[3];} v = "ab"`, "error 90"},
		{`struct S {char s[3];} v = {"ab"}`, "struct S | 0 char [3] 0.0"},
		{`struct S {char s[3];} v = {{"ab"}}`, "struct S | 0 char [3] 0.0.0.0"},
		{`union U {char s[3]; int n;} v = "ab"`, "error 90"},
		{`enum E {A} e = "ab"`, "enum E | 0 enum E"},
	})
}

// TestP9_2ScalarByList: a list round a scalar or a bit-field has just one expression.
func TestP9_2ScalarByList(t *testing.T) {
	wantTold(t, []example{
		{`int x = 1`, "int | 0 int"},
		{`int x = {1}`, "int | 0 int 0.0"},
		{`int *p = {0}`, "int * | 0 int * 0.0"},
		{`_Bool b = {1}`, "_Bool | 0 _Bool 0.0"},
		{`int x = {1, 2}`, "error 90"},
		{`int x = {{1}}`, "error 90"},
		{`int x = none`, "error 90"},
		{`int x = {none}`, "error 90"},
		{`int x = {[0] = 1}`, "error 90"},
		{`int x = {.x = 1}`, "error 90"},
		{`struct S {int a;} s; int x = {s}`, "int | 0 int 0.0"},
		{`int a[2] = {{1}, {2}}`, "int [2] | 0 int 0.0.0.0 | 4 int 1.0.0.0"},
		{`int a[2] = {{1, 2}}`, "error 90"},
		{`int a[2] = {{{1}}}`, "error 90"},
		{`int a[2] = {none}`, "error 90"},
		{`int a[] = {[2] = none}`, "error 90"},
		{`struct S {int a : 3, b : 4;} s = {{1}, {2}}`, "struct S | 0:0+3 int 0.0.0.0 | 0:3+4 int 1.0.0.0"},
		{`struct S {int a : 3, b : 4;} s = {.b = {1}}`, "struct S | 0:3+4 int 0.1.0.0"},
		{`struct S {int a : 3, b : 4;} s = {{"ab"}}`, "struct S | 0:0+3 int 0.0.0.0"},
		{`struct S {int a : 3, b : 4;} s = {{1, 2}}`, "error 90"},
		{`struct S {int a : 3, b : 4;} s = {{{1}}}`, "error 90"},
		{`struct S {int a : 3, b : 4;} s = {none}`, "error 90"},
		{`struct S {int a : 3, b : 4;} s = {{.a = 1}}`, "error 90"},
		{`struct S {int a : 3, b : 4;} s = {{[0] = 1}}`, "error 90"},
	})
}

// TestP9_2AggregateByList: an empty list initialises no part, but an array whose length is not told wants an item.
func TestP9_2AggregateByList(t *testing.T) {
	wantTold(t, []example{
		{`int a[2] = none`, "int [2]"},
		{`char a[2] = none`, "char [2]"},
		{`struct S {int a;} s = none`, "struct S"},
		{`union U {int a;} u = none`, "union U"},
		{`int a[] = none`, "error 90"},
		{`char a[] = none`, "error 90"},
		{`int a[][2] = none`, "error 90"},
		{`int a[2][2] = {none, 1}`, "int [2][2] | 8 int 1.0"},
		{`int a[][2] = {none}`, "int [1][2]"},
		{`int a[][2] = {none, none, [0] = none}`, "int [2][2]"},
		{`struct S {struct T {int x;} t; int z;} s = {none, 2}`, "struct S | 4 int 1.0"},
		{`char a[2][3] = {none, "ab"}`, "char [2][3] | 3 char [3] 1.0"},
	})
}

// TestP9_2ByExpression: a struct or a union is a leaf by an expression of its own type alone, an array by none.
func TestP9_2ByExpression(t *testing.T) {
	wantTold(t, []example{
		{`struct S {int a;} t; struct S s = t`, "struct S | 0 struct S"},
		{`union U {int a;} t; union U u = t`, "union U | 0 union U"},
		{`struct S {int a;} s = (struct S) {0}`, "struct S | 0 struct S"},
		{`struct S {int a;} s = 1`, "error 90"},
		{`struct S {int a;}; struct T {int a;} t; struct S s = t`, "error 90"},
		{`struct S {int a;} *p; struct S s = p`, "error 90"},
		{`struct S {int a;} t[1]; struct S s = t`, "error 90"},
		{`union U {int a;} u = 1`, "error 90"},
		{`int b[2]; int a[2] = b`, "error 90"},
		{`int b[2]; int a[2] = 1`, "error 90"},
		{`int b[2]; int a[] = b`, "error 90"},
		{`char b[2]; char a[2] = b`, "error 90"},
		{`char b[2]; char a[] = b`, "error 90"},
		{`char b[2]; char a[2] = {b}`, "char [2] | 0 char 0.0"},
		{`char b[2]; char a[2][2] = {b, b}`, "char [2][2] | 0 char 0.0 | 1 char 1.0"},
		{`struct S {int a;} t; int x = t`, "int | 0 int"},
		{`struct S {int a;} t; struct S s = {t}`, "struct S | 0 int 0.0"},
		{`int x; int *p = x`, "int * | 0 int *"},
	})
}

// TestP9_2PartsByExpression: parts that have the expression's type are leaves, at whatever depth.
func TestP9_2PartsByExpression(t *testing.T) {
	const in = "struct I {int x, y;} s; "
	const union = "union U {int a; char b;} u; "
	wantTold(t, []example{
		{in + `struct O {struct I a; int z;} v = {s, 3}`, "struct O | 0 struct I 0.0 | 8 int 1.0"},
		{in + `struct O {struct I a; int z;} v = {{s}, 3}`, "struct O | 0 int 0.0.0.0 | 8 int 1.0"},
		{in + `struct O {struct I a; int z;} v = {.z = 1, .a = s, 3}`, "struct O | 8 int 0.1 | 0 struct I 1.1 | 8 int 2.0"},
		{in + `struct O {struct I a; int z;} v = {1, s, 3}`, "struct O | 0 int 0.0 | 4 int 1.0 | 8 int 2.0"},
		{in + `struct O {struct I a; int z;} v = {1, 2, s}`, "struct O | 0 int 0.0 | 4 int 1.0 | 8 int 2.0"},
		{in + `struct O {struct I a; int z;} v = {(struct I) {0}, 3}`, "struct O | 0 struct I 0.0 | 8 int 1.0"},
		{in + `struct I a[2] = {s, s}`, "struct I [2] | 0 struct I 0.0 | 8 struct I 1.0"},
		{in + `struct I a[2] = {1, 2, s}`, "struct I [2] | 0 int 0.0 | 4 int 1.0 | 8 struct I 2.0"},
		{in + `struct I a[] = {s, 1, s, s}`, "struct I [3] | 0 struct I 0.0 | 8 int 1.0 | 12 int 2.0 | 16 struct I 3.0"},
		{in + `struct O {struct M {struct I i; int k;} m; int z;} v = {s, 1, 2}`, "struct O | 0 struct I 0.0 | 8 int 1.0 | 12 int 2.0"},
		{in + `struct O {struct M {int k; struct I i;} m; int z;} v = {s, s, s}`, "struct O | 0 int 0.0 | 4 struct I 1.0 | 12 int 2.0"},
		{in + `struct O {struct M {struct I i[2];} m[2]; int z;} v = {s, s, s, 1}`, "struct O | 0 struct I 0.0 | 8 struct I 1.0 | 16 struct I 2.0 | 24 int 3.0"},
		{union + `struct O {union U u; int z;} v = {u, 1}`, "struct O | 0 union U 0.0 | 4 int 1.0"},
		{union + `struct O {union U u; int z;} v = {1, u}`, "struct O | 0 int 0.0 | 4 int 1.0"},
		{union + `union V {union U u; char z;} v = {u}`, "union V | 0 union U 0.0"},
		{union + `union V {int z; union U u;} v = {.u = u}`, "union V | 0 union U 0.1"},
		{union + `union V {int z; union U u;} v = {u}`, "union V | 0 int 0.0"},
	})
}

package check

import (
	"strings"
	"testing"

	"mortise/api"
)

// rows writes the types of a program behind the basic ones.
func (w scribe) rows() string {
	var l []string
	for id := firstFree; id < w.types.Len(); id++ {
		row, _ := w.types.Row(id)
		s := w.typeName(id)
		if row.Kind == api.TStruct || row.Kind == api.TUnion {
			s += " {" + w.members(row) + "}"
		}
		l = append(l, s)
	}
	return strings.Join(l, ", ")
}

// members writes the members of a row, or ? of one that is not done.
func (w scribe) members(row api.TypeRow) string {
	if !row.Done {
		return "?"
	}
	var l []string
	for _, m := range row.Members {
		s, _ := w.types.Declare(m.Type, m.Name)
		if m.Bits >= 0 {
			s += " : " + string(rune('0'+m.Bits/10)) + string(rune('0'+m.Bits%10))
		}
		l = append(l, s)
	}
	return strings.Join(l, "; ")
}

// tables asks for the types of texts to which a main is put.
func tables(t *testing.T, l []sample) {
	t.Helper()
	for _, s := range l {
		w := checked(t, mainless(s.text))
		if got := w.rows(); got != s.want {
			t.Errorf("%s:\n got %s\nwant %s", s.text, got, s.want)
		}
	}
}

// TestP10_1Types: which types a text has, in which order.
func TestP10_1Types(t *testing.T) {
	tables(t, []sample{
		{``, ``},
		{`int x; char y; unsigned z;`, ``},
		{`int *x, **y, z[3], *w[2];`, `int *, int **, int [3], int *[2]`},
		{`int x[2][3], (*y)[3], x2[2][3];`, `int [3], int [2][3], int (*)[3]`},
		{`struct S;`, `struct S {?}`},
		{`struct S *p;`, `struct S {?}, struct S *`},
		{`struct S { int a; struct S *n; } x;`, `struct S {int a; struct S *n}, struct S *`},
		{`struct S; struct S; struct S *p; struct S { char c; }; struct S *q;`, `struct S {char c}, struct S *`},
		{`union U { int a : 3; unsigned : 0; unsigned b : 12, c; char d[2]; } x;`, `union U {int a : 03; unsigned int : 00; unsigned int b : 12; unsigned int c; char d[2]}, char [2]`},
		{`struct { int a; } x; union { int b; } y; enum { A } z; struct { struct { int c; } d; enum { B } e; } w;`, `struct #1 {int a}, union #2 {int b}, enum #3, struct #4 {struct #5 d; enum #6 e}, struct #5 {int c}, enum #6`},
		{`struct S { struct T *t; }; struct T { struct S s; };`, `struct S {struct T *t}, struct T {struct S s}, struct T *`},
		{`enum E { A } x; enum E y; enum E *z;`, `enum E, enum E *`},
		{`typedef struct S T; T *p; struct S { int a; }; T x;`, `struct S {int a}, struct S *`},
		{`int f(int a[3], char *b) { return 0; }`, `int [3], int *, char *`},
		{`char *s = "ab";`, `char *, char [3]`},
		{`int a[] = { 1, 2 };`, `int [], int [2]`},
		{`int x = sizeof(struct S { int a; }), y = sizeof(struct S *);`, `struct S {int a}, struct S *`},
		{`int x = sizeof &x;`, `int *`},
		{`int f(struct P *p) { return 0; } struct P *q;`, `struct P {?}, struct P *, struct P {?}, struct P *`},
		{`struct S { int a; }; int f(void) { struct S { char c; } x; struct S *p; struct T *q; return 0; } struct S *r; struct T *u;`, `struct S {int a}, struct S {char c}, struct S *, struct T {?}, struct T *, struct S *, struct T {?}, struct T *`},
	})
}

// TestP10_1TagTwice: tags of another kind, and tags that are defined twice.
func TestP10_1TagTwice(t *testing.T) {
	unitFaults(t, api.ErrTwice,
		`struct S { int a; }; @struct S { int a; };`, `union S { int a; } x; @union S { char b; } y;`, `enum E { A }; @enum E { B };`, `enum E { A } x; enum E y; @enum E { B } z;`,
		`struct S { int a; }; @union S x;`, `struct S { int a; }; @union S;`, `struct S { int a; }; @union S { int a; };`, `struct S { int a; }; @enum S x;`, `struct S { int a; }; @enum S;`, `struct S { int a; }; @enum S { A };`,
		`union S { int a; }; @struct S *p;`, `union S; @struct S;`, `struct S; @union S { int a; };`, `struct S; @enum S { A };`, `enum E { A }; @struct E;`, `enum E { A }; @struct E *p;`, `enum E { A }; @union E { int a; };`,
		`struct S { @enum S { A } x; };`, `struct S { @union S *u; };`, `enum E { A = sizeof(@struct E *) };`, `struct S { int a; }; int f(struct S x) { @union S *p; return 0; }`, `struct S *p; int f(@union S *q);`, `int f(struct S *p, @union S *q);`,
		`struct S { int a; }; int f(void) { @enum S; return 0; }`, `struct S { int a; }; int f(void) { { @union S *p; } return 0; }`, `int f(void) { struct S { int a; } x; @struct S { int a; } y; return 0; }`, `int f(void) { struct S; @union S; return 0; }`,
		`int x = sizeof(struct S { int a; }) + sizeof(@struct S { int a; });`,
	)
	unitFaults(t, api.ErrDone, `@struct S { struct S { int a; } b; };`, `int x; @union U { int a; union U { int b; } c; } y;`)
	takes(t,
		`struct S { int a; }; int f(void) { union S { int b; } x; return x.b; } struct S y;`, `struct S { int a; }; int f(void) { union S; union S *p; return 0; }`, `struct S { int a; }; int f(void) { enum S { A } x; return A; }`, `enum E { A }; int f(void) { struct E; struct E { int a; } x; return x.a; } enum E x;`,
		`struct S { int a; }; int S; int f(void) { return S; }`, `struct S { int S; } S; int f(void) { return S.S; }`, `int f(union S { int a; } x) { return x.a; } struct S { int b; } y;`, `struct S; int f(struct S *y) { return 0; }`,
		`int f(void) { struct S { int a; } x; return x.a; } int g(void) { union S { int b; } x; return x.b; }`, `int f(void) { for (struct S { int a; } x; ; ) { union S { int b; } y; } }`,
	)
}

// TestP10_1TagScopes: which type a tag is in which scope.
func TestP10_1TagScopes(t *testing.T) {
	takes(t,
		`struct S { int a; } s; int f(void) { struct S *p = &s; return p->a; }`,
		`struct S { int a; } s; int f(void) { struct S { char c[9]; } s; return sizeof s == 9 ? s.c[1] : 0; }`,
		`struct S *p; struct S { int a; }; int f(void) { return p->a; }`,
		`int f(void) { struct S; struct S *p; struct S { int a; } x; p = &x; return p->a; }`,
		`int f(struct P { int a; } x) { struct P y; y = x; return y.a; }`,
		`int f(void) { for (struct S { int a; } x = { 1 }; ; ) { struct S y = x; } }`,
		`int f(void) { { struct S *p; { struct S { int a; }; } p = 0; } return 0; }`,
		`int f(void) { if (sizeof(struct S { int a; })) { struct S x; x.a = 1; } struct S y; return y.a; }`,
		`struct S { int a; } s; int f(void) { struct S x = s; struct S; struct S *p = 0; return x.a; }`,
		`enum E { A }; int f(void) { enum E x = A; { enum E { B = 7 } y = B; x = y; } return x; }`,
	)
	unitFaults(t, api.ErrIncomplete,
		`struct S; int f(void) { struct S { int a; }; return 0; } struct S @x;`, `int f(struct P { int a; } x) { return 0; } struct P @y;`, `int f(void) { for (struct S { int a; } x; ; ) ; struct S @y; }`, `int f(void) { { struct S { int a; } x; } struct S @y; }`,
		`struct S { int a; } s; int f(void) { struct S; struct S *p; return p@->a; }`, `struct S *p; int f(void) { struct S { int a; } x; return p@->a; }`, `struct S; struct S @x; struct S { int a; };`, `struct S { int a; }; int f(void) { struct S; struct S @x; }`,
	)
	unitFaults(t, api.ErrOperand,
		`struct S *p; int f(void) { struct S { int a; } x; p @= &x; }`, `struct S { int a; } s; int f(void) { struct S { int a; } x; x @= s; }`, `struct S { int a; } s; int f(void) { struct S; struct S *p; p @= &s; }`,
	)
	unitFaults(t, api.ErrCall, `int f(struct P *p) { return 0; } struct P { int a; } x; int g(void) { return @f(&x); }`)
	unitFaults(t, api.ErrReturn, `struct S { int a; } f(void) { struct S { int a; } x; @return x; }`)
}

// TestP10_1Members: members that may not be, and those at the edges.
func TestP10_1MembersOfTags(t *testing.T) {
	unitFaults(t, api.ErrBits, `struct { int @a : 33; };`, `struct { int @a : -1; };`, `struct { int x : 3, @a : 33; };`, `struct { unsigned @: 33; };`, `union { int @a : 4294967295u; };`, `struct { int @a : 1000000; } x;`, `struct { char @a : 33; };`,
		`@struct { char a : 9; };`, `@struct S { int *p : 3; };`, `@struct { _Bool b : 2; };`, `struct { int a; @struct { short h : 17; } b; };`, `@union { struct { int a; } s : 3; };`, `@struct { int a[2] : 3; };`, `typedef int T[2]; @struct { T a : 1; };`)
	unitFaults(t, api.ErrTag, `@struct { int a : 0; };`, `@struct { int a, a; };`, `@struct S { int a; char *a; };`, `@union { int a : 3; int b, a; };`)
	unitFaults(t, api.ErrIncomplete, `@struct S { struct S s; };`, `@struct { void v; };`, `@struct { int a[]; };`, `struct O; @struct { struct O o; };`, `@union U { union U *p; union U u; };`, `struct S { int a; struct O @o[2]; };`)
	unitFaults(t, api.ErrDeclare, `struct { int @f(void); };`, `struct { int a, (*@p)(void); };`, `struct { int @a[0]; };`, `struct { int @a[16385]; };`)
	unitFaults(t, api.ErrConst, `int x; struct { int a : @x; };`, `int x; struct { int a[@x]; };`, `struct { int a : @"x"; };`, `struct { int a : (1 @, 2); };`)
	unitFaults(t, api.ErrZero, `struct { int a : 1 @/ 0; };`, `struct { int a : 1 @% 0; };`)
	tables(t, []sample{
		{`struct { int a : 1, : 0, b : 32; unsigned : 31; } x;`, `struct #1 {int a : 01; int : 00; int b : 32; unsigned int : 31}`},
		{`enum E { A = 3 }; struct { enum E e : A + 1; _Bool b : 1; char c : sizeof(int) * 2; long l : 'a' - 'A'; short h : (char)258; } x;`, `enum E, struct #1 {enum E e : 04; _Bool b : 01; char c : 08; long l : 32; short h : 02}`},
		{`struct { int : 3; } x;`, `struct #1 {int : 03}`},
		{`struct { struct { int a; } a; union { int a; } b; } x;`, `struct #1 {struct #2 a; union #3 b}, struct #2 {int a}, union #3 {int a}`},
	})
}

// TestP10_1Enums: the values of enums, and where their names begin to be.
func TestP10_1Enums(t *testing.T) {
	globals(t, []sample{
		{`enum E { A, B, C = 5, D, F = -3, G, H = 'a', I = A } x[] = { A, B, C, D, F, G, H, I };`, `x enum E [8] = 00 00 00 00 01 00 00 00 05 00 00 00 06 00 00 00 fd ff ff ff fe ff ff ff 61 00 00 00 00 00 00 00`},
		{`enum { A = 2147483646, B } ; int x = B;`, `x int = ff ff ff 7f`},
		{`enum { A = -2147483647 - 1, B }; int x = A, y = B;`, `x int = 00 00 00 80; y int = 01 00 00 80`},
		{`enum { A = 2147483647u }; int x = A;`, `x int = ff ff ff 7f`},
		{`enum E { A = sizeof(enum E), B = A << 2 }; int x = B;`, `x int = 10 00 00 00`},
		{`enum { A }; struct { enum { B = A + 1, C } e; } y; int x = C;`, `y struct #2 = 00 00 00 00; x int = 02 00 00 00`},
		{`int A[3]; int f(void) { enum { A = sizeof A, B = A + 1 }; static int x = B; return 0; }`, `A int [3] = 00 00 00 00 00 00 00 00 00 00 00 00; x int = 0d 00 00 00`},
		{`enum { A = 1 ? 2 : 3, B = !A, C = A && 0, D = A || 0, F = ~A, G = -A, H = (char)300 };  int x[] = { A, B, C, D, F, G, H };`, `x int [7] = 02 00 00 00 00 00 00 00 00 00 00 00 01 00 00 00 fd ff ff ff fe ff ff ff 2c 00 00 00`},
	})
	unitFaults(t, api.ErrConst, `enum { A = 2147483647, @B };`, `enum { @A = 2147483648u };`, `enum { B, @A = 4294967295u };`, `enum { @A = 0xffffffff };`, `enum { A = 2147483647, B = A, @C };`, `int x; enum { A = @x };`, `enum { A = @"x" };`, `enum { A = (1 @, 2) };`, `int x; enum { A = sizeof x, B = x @+ 1 };`)
	unitFaults(t, api.ErrZero, `enum { A = 1 @/ 0 };`, `enum { A, B = 1 @% A };`)
	unitFaults(t, api.ErrTwice, `enum { A, @A };`, `int A; enum { @A };`, `enum { A }; int @A;`, `enum { A }; enum { B, @A };`, `typedef int A; enum { @A };`, `int A(void); enum { @A };`, `struct { enum { A } x; enum { @A } y; } z;`, `enum { A } x; typedef int @A;`)
	unitFaults(t, api.ErrName, `enum { A = @A };`, `enum { A = @B, B };`, `@enum E x; enum E { A };`, `@enum E; enum E { A };`)
	takes(t, `enum { A }; int f(void) { enum { A = 3 }; return A; }`, `enum { A }; int f(int A) { return A; }`, `enum E { A }; struct A { int E; } E;`)
}

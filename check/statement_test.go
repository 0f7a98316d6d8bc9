package check

import (
	"strings"
	"testing"

	"mortise/api"
)

// TestP10_1Statements: what statements become.
func TestP10_1Statements(t *testing.T) {
	bodies(t, []sample{
		{``, ``},
		{`;`, `None`},
		{`{ }`, `Block`},
		{`{ ; { i; } }`, `Block(None Block(Expr(Read(i))))`},
		{`i = 1; v();`, `Expr(Set(i 1)) Expr(v<void>)`},
		{`if (i) j;`, `If(Read(i) Expr(Read(j)))`},
		{`if (p) ; else { i; }`, `If(Read(p<int *>) None Block(Expr(Read(i))))`},
		{`if (s.b) if (a) 1; else 2;`, `If(Read(Part.0:3+5<unsigned int>(s<struct S>)) If(Addr<int *>(a<int [3]>) Expr(1) Expr(2)))`},
		{`while (c) i++;`, `While(Read(c<char>) Expr(Update#1(i Bin:add(Old 1))))`},
		{`while (1) { if (i) break; continue; }`, `While(1 Block(If(Read(i) Break) Continue))`},
		{`do ; while (i);`, `Do(None Read(i))`},
		{`do break; while (0);`, `Do(Break 0)`},
		{`for (; ; ) ;`, `For(None None None None)`},
		{`for (i = 0; i < 3; i++) { }`, `For(Expr(Set(i 0)) Bin:lts(Read(i) 3) Update#1(i Bin:add(Old 1)) Block)`},
		{`for (int x = 1, y; x; v()) y = x;`, `For(Block(Zero#0 Expr(Set(Part.0(L0) 1)) Fresh#1) Read(L0) v<void> Expr(Set(L1 Read(L0))))`},
		{`for (static int x; ; ) break;`, `For(Block None None Break)`},
		{`for (struct X { int a; }; ; ) continue;`, `For(Block None None Continue)`},
		{`for (v(); p; s) while (1) for (; ; ) { do break; while (1); continue; }`, `For(Expr(v<void>) Read(p<int *>) Read(s<struct S>) While(1 For(None None None Block(Do(Break 1) Continue))))`},
		{`return 1;`, `Return(1)`},
		{`return c;`, `Return(Conv(Read(c<char>)))`},
		{`{ int x = 1; return x; } int y;`, `Block(Zero#0 Expr(Set(Part.0(L0) 1)) Return(Read(L0))) Fresh#1`},
		{`int x, y = 2; x; static int z; int w;`, `Fresh#0 Zero#1 Expr(Set(Part.0(L1) 2)) Expr(Read(L0)) Fresh#2`},
		{`typedef int X; ; X x;`, `None Fresh#0`},
	})
}

// TestP10_1Loops: break and continue in each place.
func TestP10_1Loops(t *testing.T) {
	for _, word := range []string{"break", "continue"} {
		var wrong, right []string
		for _, s := range []string{`@?;`, `{ @?; }`, `if (1) @?;`, `if (1) ; else { @?; }`, `while (1) ; @?;`, `for (; ; ) { } @?;`, `do ; while (1); @?;`, `while (1) { ?; } { @?; }`, `for (; ; ) ?; if (i) @?;`} {
			wrong = append(wrong, strings.ReplaceAll(s, "?", word))
		}
		for _, s := range []string{`while (1) ?;`, `do ?; while (1);`, `for (; ; ) ?;`, `while (1) { { if (1) ; else ?; } }`, `for (; ; ) while (1) ?;`, `for (; ; ) { while (1) ; ?; }`, `do { do ; while (1); ?; } while (1);`} {
			right = append(right, strings.ReplaceAll(s, "?", word))
		}
		mainFaults(t, api.ErrLoop, wrong...)
		takesInMain(t, right...)
	}
	faults(t, api.ErrLoop, `int f(void) { while (1) break; } int main(void) { @break; }`)
}

// TestP10_1Returns: return in each function.
func TestP10_1Returns(t *testing.T) {
	mainFaults(t, api.ErrReturn, `@return;`, `{ @return; }`, `while (1) @return;`, `@return p;`, `@return s;`, `if (1) return 1; else @return a;`, `@return "a";`)
	unitFaults(t, api.ErrReturn, `void f(void) { @return 1; }`, `void f(int a) { if (a) @return a; }`, `int *f(void) { @return 1; }`, `int x; char *f(void) { @return &x; }`, `struct S { int a; } s; struct S f(void) { @return 0; }`, `struct S { int a; } s; int f(void) { @return s; }`, `struct S { int a; } f(void) { @return; }`, `int *f(void) { @return; }`, `_Bool f(int *p) { @return p; }`, `void f(void) { @return 0; }`, `struct S { int a; } s; struct T { int a; } f(void) { @return s; }`)
	takes(t, `void f(void) { return; }`, `void f(void) { }`, `int f(void) { }`, `int *f(void) { return 0; }`, `char f(void) { return 300; }`, `void *f(int *p) { return p; }`, `struct S { int a; } s; struct S f(void) { return s; }`, `_Bool f(void) { return 2; }`, `int *f(void) { return 1 - 1; }`, `enum E { A } f(void) { return 5; }`, `int a[3]; int *f(void) { return a; }`)
	for text, want := range map[string]string{
		`int *f(void) { return 0; }`: `Block(Return(0<int *>))`, `char f(int x) { return x; }`: `Block(Return(Conv<char>(Read(L0))))`, `void *f(int *p) { return p; }`: `Block(Return(Conv<void *>(Read(L0<int *>))))`, `void f(void) { return; }`: `Block(Return)`, `_Bool f(void) { return 2; }`: `Block(Return(Conv<_Bool>(2)))`, `struct { unsigned b : 5; } s; unsigned f(void) { return s.b; } `: `Block(Return(Read(Part.0:0+5<unsigned int>(s<struct #1>))))`,
	} {
		w := checked(t, mainless(text))
		if got := w.show(w.Funcs[0].Body); got != want {
			t.Errorf("%s: got %s, want %s", text, got, want)
		}
	}
}

// TestP10_1Scopes: which object a name has in which scope.
func TestP10_1Scopes(t *testing.T) {
	bodies(t, []sample{
		{`int x; { x; int x; x; { x; } } x;`, `Fresh#0 Block(Expr(Read(L0)) Fresh#1 Expr(Read(L1)) Block(Expr(Read(L1)))) Expr(Read(L0))`},
		{`i; int i; i; { char i; i; }`, `Expr(Read(i)) Fresh#0 Expr(Read(L0)) Block(Fresh#1 Expr(Read(L1<char>)))`},
		{`int x; for (char x; x; x) { short x; x; } x;`, `Fresh#0 For(Block(Fresh#1) Read(L1<char>) Read(L1<char>) Block(Fresh#2 Expr(Read(L2<short>)))) Expr(Read(L0))`},
		{`int x; for (; x; ) { char x; } x;`, `Fresh#0 For(None Read(L0) None Block(Fresh#1)) Expr(Read(L0))`},
		{`if (sizeof(enum { X = 3 })) X; X;`, `If(4<unsigned int> Expr(3)) Expr(3)`},
		{`{ enum { A = 9 }; A; } A;`, `Block(Expr(9)) Expr(0)`},
		{`int x = 1, y = x; char c = c;`, `Zero#0 Expr(Set(Part.0(L0) 1)) Zero#1 Expr(Set(Part.0(L1) Read(L0))) Zero#2 Expr(Set(Part.0<char>(L2<char>) Read(L2<char>)))`},
		{`int x[sizeof i], i; x; i;`, `Fresh#0 Fresh#1 Expr(Addr<int *>(L0<int [4]>)) Expr(Read(L1))`},
		{`int I = 1; I;`, `Zero#0 Expr(Set(Part.0(L0) 1)) Expr(Read(L0))`},
	})
	w := checked(t, "int x; int f(int x, char y) { x; { short y; y; } y; return 0; } int main(void) { return x; }")
	if got := w.show(w.Funcs[0].Body); got != "Block(Expr(Read(L0)) Block(Fresh#2 Expr(Read(L2<short>))) Expr(Read(L1<char>)) Return(0))" {
		t.Error(got)
	}
}

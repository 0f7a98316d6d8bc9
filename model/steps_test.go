package model

import (
	"strings"
	"testing"

	"mortise/api"
)

// counted is what the expressions are made of whose steps are counted. A struct S has 8 bytes, a union U 12, a struct B 4, a struct L 300.
const counted = "int x, y = 1, *p = &y, a[3]; char c; struct S { int a; char b[4]; } s, t, *q = &s; union U { int n; char z[12]; } u, *v = &u; " +
	"struct B { int f : 3; unsigned g : 5; } b; struct L { char z[300]; } l; " +
	"int zero(void) { return 0; } int same(int n) { return n; } void none(void) { } int empty(void) { } " +
	"void hs(struct S s) { } void hu(union U u, struct S s, int n) { } struct S gs(void) { return s; } union U gu(void) { return u; } "

// TestP12_1StepsOfNodes: the steps that an expression takes, its nodes counted by hand, with the bytes of structs and unions.
func TestP12_1StepsOfNodes(t *testing.T) {
	without := stepsOf(t, inMain(counted, "return 0;"))
	if without != 3 {
		t.Errorf("a block and a return of a constant take %d steps", without)
	}
	for text, want := range map[string]int{
		"5":                         1, // TxConst
		"x":                         2, // TxRead, TxGlobal
		"&x":                        2, // TxAddr, TxGlobal
		"a":                         2, // TxAddr, TxGlobal
		"*p":                        4, // TxRead, TxDeref, TxRead, TxGlobal
		"&*p":                       4, // TxAddr, TxDeref, TxRead, TxGlobal
		"a[1]":                      6, // TxRead, TxDeref, TxPtrAdd, TxAddr, TxGlobal, TxConst
		"s.a":                       3, // TxRead, TxPart, TxGlobal
		"&s.b":                      3, // TxAddr, TxPart, TxGlobal
		"q->a":                      5, // TxRead, TxPart, TxDeref, TxRead, TxGlobal
		"b.f":                       3,
		"u.z[3]":                    7, // TxRead, TxDeref, TxPtrAdd, TxAddr, TxPart, TxGlobal, TxConst
		"\"ab\"":                    2,
		"sizeof s":                  1,
		"(char) x":                  3, // TxConv, TxRead, TxGlobal
		"(void) x":                  3, // TxVoid, TxRead, TxGlobal
		"(_Bool) p":                 5, // TxConv, TxNot, TxNot, TxRead, TxGlobal
		"+x":                        2,
		"-x":                        4, // TxBin, TxConst, TxRead, TxGlobal
		"~x":                        4,
		"!x":                        3,
		"x + 1":                     4, // TxBin, TxRead, TxGlobal, TxConst
		"c + b.g":                   8, // TxBin, TxConv, TxRead, TxGlobal, TxConv, TxRead, TxPart, TxGlobal
		"p + 1":                     4, // TxPtrAdd, TxRead, TxGlobal, TxConst
		"p + 1 - 1":                 8, // TxPtrAdd, TxPtrAdd, TxRead, TxGlobal, TxConst, TxBin, TxConst, TxConst
		"p - p":                     5, // TxDiff, twice TxRead, TxGlobal
		"p == p":                    5, // TxCmp
		"p == 0":                    4,
		"p > p":                     5,
		"x, y":                      5, // TxComma
		"x && 1":                    3, // x is 0
		"y && x":                    5,
		"y || 1":                    3, // y is not
		"x || y":                    5,
		"x ? 1 : y":                 5, // TxCond, TxRead, TxGlobal, TxRead, TxGlobal
		"y ? 1 : y":                 4,
		"x = 1":                     3, // TxSet, TxGlobal, TxConst
		"c = x":                     5, // TxSet, TxGlobal, TxConv, TxRead, TxGlobal
		"b.f = 1":                   4, // TxSet, TxPart, TxGlobal, TxConst
		"x++":                       5, // TxUpdate, TxGlobal, TxBin, TxOld, TxConst
		"--x":                       5,
		"x += y":                    6,
		"c++":                       7,  // TxUpdate, TxGlobal, TxConv, TxBin, TxConv, TxOld, TxConst
		"b.f++":                     6,  // TxUpdate, TxPart, TxGlobal, TxBin, TxOld, TxConst
		"b.g++":                     8,  // TxUpdate, TxPart, TxGlobal, TxConv, TxBin, TxConv, TxOld, TxConst
		"p++":                       5,  // TxUpdate, TxGlobal, TxPtrAdd, TxOld, TxConst
		"p++, p--":                  13, // TxComma, p++ as above, TxUpdate, TxGlobal, TxPtrAdd, TxOld, TxBin, TxConst, TxConst
		"x += y += 1":               9,  // TxUpdate, TxGlobal, TxBin, TxOld, TxUpdate, TxGlobal, TxBin, TxOld, TxConst
		"putchar(65)":               2,  // TxPut, TxConst
		"getchar()":                 1,
		"zero()":                    4, // TxCall, TsBlock, TsReturn, TxConst
		"same(1)":                   6, // TxCall, TxConst, TsBlock, TsReturn, TxRead, TxLocal
		"none()":                    2, // TxCall, TsBlock
		"empty()":                   2,
		"(void) empty()":            3,
		"s":                         2 + 8,
		"*q":                        4 + 8,
		"u":                         2 + 12,
		"l":                         2 + 300,
		"s = t":                     4 + 2*8, // TxSet, TxGlobal, TxRead, TxGlobal
		"u = *v":                    6 + 2*12,
		"l = l":                     4 + 2*300,
		"s = t = s":                 6 + 3*8, // two TxSets and a TxRead
		"x ? s : t":                 5 + 8,
		"(x, s)":                    5 + 8,
		"(void) s":                  3 + 8,
		"hs(s)":                     4 + 2*8, // TxCall, TxRead, TxGlobal, the parameter, TsBlock
		"hu(u, s, 1)":               7 + 2*12 + 2*8,
		"gs()":                      5 + 8, // TxCall, TsBlock, TsReturn, TxRead, TxGlobal
		"gu()":                      5 + 12,
		"hs(gs())":                  7 + 2*8,
		"gs().a":                    10 + 8 + 8 + 8, // TxRead, TxPart, TxLit and its bytes, TxSet and its bytes, TxLocal, the call and its read
		"s = gs()":                  7 + 2*8,        // TxSet, TxGlobal, the call
		"(struct S) { 1 }":          2 + 8 + 8 + 4,  // TxRead, TxLit, and TxSet, TxPart, TxLocal, TxConst
		"&(struct S) { 1 }":         2 + 8 + 4,
		"(struct S) { 1 }.a":        3 + 8 + 4,
		"(int) { 3 }":               2 + 4 + 4,  // the bytes of a TxLit's local are counted of every type
		"(char) { 3 }":              2 + 1 + 5,  // TxConv, too
		"(int[3]) { 3, 4 }":         2 + 12 + 8, // TxAddr, TxLit
		"(char[6]) { \"a\" }":       2 + 6 + 4,
		"(char[300]) { 0 }":         2 + 300 + 5,
		"(struct S) { 1, \"ab\" }":  2 + 8 + 8 + 12,
		"(struct B) { 1, 2 }.g":     3 + 4 + 4 + 5,
		"(union U) { .z = \"ab\" }": 2 + 12 + 12 + 8,
		"(int *) { p }":             2 + 4 + 5,
	} {
		if got := stepsOf(t, inMain(counted, text+"; return 0;")) - without - 1; got != want {
			t.Errorf("%s: %d steps, want %d", text, got, want)
		}
		agrees(t, inMain(counted, text+"; return 0;"), "", enough)
	}
}

// TestP12_1StepsOfStatements: each statement takes a step when it is begun, and each time what it asks and does.
func TestP12_1StepsOfStatements(t *testing.T) {
	without := stepsOf(t, inMain(counted, "return 0;"))
	for text, want := range map[string]int{
		"":                               0,
		";":                              1,
		"{ }":                            1,
		"{ ; { } }":                      3,
		"5;":                             2,
		"int i;":                         1, // TsFresh
		"int i, k[9];":                   2,
		"struct L i;":                    1,
		"static int i;":                  0,
		"static int i = 1;":              0,
		"int i = 1;":                     1 + 4 + 1 + 4, // TsZero, its bytes, TsExpr of TxSet, TxPart, TxLocal, TxConst
		"char i = 1;":                    1 + 1 + 1 + 5,
		"short i = 1;":                   1 + 2 + 1 + 5,
		"int i[5] = { 1 };":              1 + 20 + 1 + 4,
		"char i[9] = \"ab\";":            1 + 9 + 2*(1+4),
		"char i[] = \"\";":               1 + 1,
		"struct S i = { 1, { 2, 3 } };":  1 + 8 + 5 + 2*6,
		"struct S i = s;":                1 + 8 + 1 + 5 + 8 + 8, // TsZero, TsExpr of TxSet, TxPart, TxLocal, TxRead, TxGlobal
		"union U i = { 1 };":             1 + 12 + 1 + 4,
		"struct L i = { 0 };":            1 + 300 + 1 + 5, // TxConv, too
		"struct B i = { 1, 2 };":         1 + 4 + 1 + 4 + 1 + 5,
		"if (x) 5;":                      3,
		"if (y) 5;":                      5,
		"if (x) 5; else ;":               4,
		"if (y) 5; else ;":               5,
		"while (x) 5;":                   3,
		"while (y) break;":               4,
		"while (y) y = 0;":               1 + 2 + 1 + 3 + 2,
		"while (y) { y = 0; continue; }": 1 + 2 + 1 + 1 + 3 + 1 + 2,
		"do ; while (x);":                1 + 1 + 2,
		"do break; while (y);":           2,
		"do continue; while (x);":        4,
		"do y = 0; while (y);":           1 + 4 + 2,
		"for (;;) break;":                3, // TsFor, TsNone, TsBreak: what is not there takes no step
		"for (; x; ) ;":                  4,
		"for (5; x; y) ;":                5, // TsFor, TsExpr, TxConst, TxRead, TxGlobal
		"for (; y; y = 0) ;":             2 + 2 + 1 + 3 + 2,
		"for (; y; y = 0) continue;":     2 + 2 + 1 + 3 + 2,
		"for (; y; y = 0) break;":        2 + 2 + 1,
		"for (int i = 0; i < 2; i++) ;":  1 + 1 + 10 + 3*4 + 2*(1+5), // TsFor, TsBlock, the declaration, TxBin, TxRead, TxLocal, TxConst
		"for (int i; x; ) ;":             1 + 1 + 1 + 2,
		"for (y = 0; y < 1; y++) for (; ; y++) break;":   2 + 3 + 4 + (1 + 1 + 1) + 5 + 4,
		"for (y = 0; y < 2; y++) { if (y) continue; 5;}": 2 + 3 + 3*4 + 2*5 + (1 + 3 + 2) + (1 + 3 + 1),
		"return 5; 6;":        0,
		"{ return 5; }":       1,
		"while (y) return 5;": 3,
		"exit(0); 6; 7;":      1, // TsExpr, TxExit, TxConst in the place of TsReturn, TxConst
	} {
		if got := stepsOf(t, inMain(counted, text+" return 0;")) - without; got != want {
			t.Errorf("%s: %d steps, want %d", text, got, want)
		}
		agrees(t, inMain(counted, text+" return 0;"), "", enough)
	}
}

// TestP12_1StepsOfFuel: with each fuel that does not reach a run ends by StopFuel, with all of it taken.
func TestP12_1StepsOfFuel(t *testing.T) {
	for _, text := range []string{"s = t;", "hs(s);", "hu(u, s, 1);", "struct S i = { 1 };", "gs().a;", "(int[3]) { 3 };", "x += y += same(2);", "for (int i = 0; i < 2; i++) ;", "int i; do i = 0; while (i);", "u = gu();"} {
		text = inMain(counted, text+" return 6;")
		whole := ran(t, text, "", enough)
		if whole.Stop != api.StopExit || whole.Code != 6 {
			t.Errorf("%s: %v", text, whole)
		}
		for fuel := 1; fuel < whole.Steps; fuel++ {
			if o := ran(t, text, "", fuel); !same(o, api.Outcome{Stop: api.StopFuel, Steps: fuel}) {
				t.Errorf("%s by %d: %v", text, fuel, o)
			}
		}
		for _, fuel := range []int{whole.Steps, whole.Steps + 1, api.MaxFuel} {
			if o := ran(t, text, "", fuel); !same(o, whole) {
				t.Errorf("%s by %d: %v, want %v", text, fuel, o, whole)
			}
		}
	}
}

// edge is a text, the least fuel with which 'a' comes out, and the least with which 'b' does.
type edge struct {
	text string
	a, b int
}

// TestP12_1StepsInOrder: the steps of bytes are taken where the chapter says, so that what stands ahead of them is done, and what stands behind them is not, if the fuel ends there.
func TestP12_1StepsInOrder(t *testing.T) {
	const ahead = "struct S { int a; char b[4]; } s, t, *q = &s; struct S *at(int n) { putchar(n); return &s; } struct S of(int n) { putchar(n); return s; } void h(struct S s) { putchar('b'); } void hh(struct S s, struct S t) { putchar('b'); } "
	for _, e := range []edge{
		// TsBlock, TsExpr, TxPut, TxConst; TsExpr, TxPut, TxConst
		{"putchar('a'); putchar('b');", 4, 7},
		// .. TsZero and 8 bytes ..
		{"putchar('a'); struct S x = { 0 }; putchar('b');", 4, 4 + 9 + 5 + 3},
		// .. TsFresh ..
		{"putchar('a'); struct S x; putchar('b');", 4, 4 + 1 + 3},
		// TsBlock, TsExpr, TxRead and 8 bytes, TxDeref, TxComma, TxPut, TxConst; TxRead, TxGlobal, then TsExpr, TxPut, TxConst
		{"*(putchar('a'), q); putchar('b');", 2 + 9 + 4, 2 + 9 + 4 + 2 + 3},
		// TsBlock, TsExpr, TxSet, TxDeref, TxComma, TxPut, TxConst; TxRead, TxGlobal, TxComma, TxPut, TxConst
		{"*(putchar('a'), q) = (putchar('b'), t);", 7, 12},
		// .. TxRead and 8 bytes, TxGlobal, and 8 bytes, then TsExpr, TxPut, TxConst
		{"*(putchar('a'), q) = t; putchar('b');", 7, 7 + 2 + 9 + 1 + 8 + 3},
		// TsBlock, TsExpr, TxRead, TxPart, TxLit and 8 bytes, TxSet, TxPart, TxLocal, TxPut, TxConst; TxSet, TxPart, TxLocal, TxConv, TxPut, TxConst
		{"(struct S) { putchar('a'), { putchar('b') } }.a;", 4 + 9 + 5, 4 + 9 + 5 + 6},
		// TsBlock, TsExpr, TxCall, TxComma, TxPut, TxConst; TxRead and 8 bytes, TxGlobal, the parameter's 8 bytes, TsBlock, TsExpr, TxPut, TxConst
		{"h((putchar('a'), s));", 6, 6 + 9 + 1 + 8 + 4},
		// .. both values, then both parameters
		{"hh((putchar('a'), s), t);", 6, 6 + 10 + 10 + 16 + 4},
	} {
		text := inMain(ahead, e.text+" return 0;")
		for c, fuel := range map[string]int{"a": e.a, "b": e.b} {
			if o := ran(t, text, "", fuel-1); strings.Contains(string(o.Out), c) || o.Stop != api.StopFuel {
				t.Errorf("%s by %d: %v has %s", e.text, fuel-1, o, c)
			}
			if o := ran(t, text, "", fuel); !strings.Contains(string(o.Out), c) {
				t.Errorf("%s by %d: %v does not have %s", e.text, fuel, o, c)
			}
		}
		for fuel := 1; fuel < e.b+30; fuel++ {
			agrees(t, text, "", fuel)
		}
	}
}

// TestP12_1StepsOfStops: what is stopped took its own steps, and those ahead of it.
func TestP12_1StepsOfStops(t *testing.T) {
	const ahead = "struct S { int a; char b[4]; } s, *q; int *p, z; char c; int f(void) { } struct S g(void) { } void h(struct S s) { } "
	for _, e := range []struct {
		text  string
		stop  api.Stop
		steps int
	}{
		{"*q;", api.StopUndef, 2 + 9 + 3},                        // TxRead and 8 bytes, TxDeref, TxRead, TxGlobal
		{"*(struct S *) &c;", api.StopUndef, 2 + 9 + 4},          // the place is there, the bytes are not
		{"s = *(struct S *) &c;", api.StopUndef, 2 + 2 + 9 + 4},  // TxSet, TxGlobal, and the same
		{"*(struct S *) &c = s;", api.StopUndef, 2 + 5 + 10 + 8}, // TxSet, TxDeref, TxConv, TxAddr, TxGlobal, the read, and 8 bytes
		{"*q = s;", api.StopUndef, 2 + 4},                        // TxSet, TxDeref, TxRead, TxGlobal
		{"*p;", api.StopUndef, 2 + 4},
		{"p[1];", api.StopUndef, 2 + 6},                // TxRead, TxDeref, TxPtrAdd, TxRead, TxGlobal, TxConst
		{"p - &z;", api.StopUndef, 2 + 5},              // both sides are done first
		{"1 / z;", api.StopZero, 2 + 4},                // TxBin, TxConst, TxRead, TxGlobal
		{"1 + f();", api.StopUndef, 2 + 4},             // TxBin, TxConst, TxCall, TsBlock
		{"f() + 1;", api.StopUndef, 2 + 4},             // TxBin, TxCall, TsBlock, TxConst
		{"z = f();", api.StopUndef, 2 + 4},             // TxSet, TxGlobal, TxCall, TsBlock
		{"s = g();", api.StopUndef, 2 + 4 + 8},         // TxSet, TxGlobal, TxCall, TsBlock, and the bytes behind them
		{"h(g());", api.StopUndef, 2 + 3 + 8},          // TxCall, TxCall, TsBlock, and the parameter's bytes
		{"return f();", api.StopUndef, 2 + 2},          // TsReturn, TxCall, TsBlock
		{"z ? 0 : f() ? 1 : 2;", api.StopUndef, 2 + 6}, // TxCond, TxRead, TxGlobal, TxCond, TxCall, TsBlock
		{"int x; x;", api.StopUndef, 2 + 3},            // TsFresh, TsExpr, TxRead, TxLocal
		{"main();", api.StopDeep, 63*3 + 3},            // TsBlock, TsExpr, TxCall each time
	} {
		text := inMain(ahead, e.text)
		if o := ran(t, text, "", enough); o.Stop != e.stop || o.Steps != e.steps {
			t.Errorf("%s: %v, want %d behind %d steps", e.text, o, e.stop, e.steps)
		}
		if o := ran(t, text, "", e.steps); o.Stop != e.stop || o.Steps != e.steps {
			t.Errorf("%s by %d: %v", e.text, e.steps, o)
		}
		for fuel := 1; fuel < e.steps; fuel++ {
			if o := ran(t, text, "", fuel); !same(o, api.Outcome{Stop: api.StopFuel, Steps: fuel}) {
				t.Errorf("%s by %d: %v", e.text, fuel, o)
			}
		}
		agrees(t, text, "", enough)
	}
}

package model

import (
	"testing"

	"mortise/api"
)

// emptyHanded are functions that end without a value, one that puts a letter out first, and some that take values. A struct S has 8 bytes.
const emptyHanded = "int x, a[2]; struct S { int a; char b[4]; } s, *q = &s; struct B { int n : 3; } b; " +
	"int f(void) { } char c(void) { } int *p(void) { } struct S g(void) { } int *o(void) { putchar('o'); return a; } " +
	"int h(int m, int n) { return putchar('h'); } int k(struct S s, int n) { return putchar('k'); } int l(int n, struct S s, int m) { return putchar('l'); } "

// TestP12_3NothingBehindTheParts: a node takes nothing when its own turn comes: all of its parts are done first, from the left, and the steps of its bytes are taken. What has one part takes it at once.
func TestP12_3NothingBehindTheParts(t *testing.T) {
	for _, e := range []struct {
		text  string
		out   string
		steps int
	}{
		{"f() + putchar('x');", "x", 2 + 5},                                                   // TxBin, TxCall, TsBlock, TxPut, TxConst
		{"putchar('x') + f();", "x", 2 + 5},                                                   // the same, the other way round
		{"f() < putchar('x');", "x", 2 + 5},                                                   // a TxBin, too
		{"f() / putchar(0);", "\x00", 2 + 5},                                                  // there are no two numbers to divide
		{"f() - f() * putchar('x');", "x", 2 + 8},                                             // TxBin, TxCall, TsBlock, TxBin, TxCall, TsBlock, TxPut, TxConst
		{"x += f() + putchar('x');", "x", 2 + 4 + 5},                                          // TxUpdate, TxGlobal, TxBin, TxOld, and as above
		{"p() + putchar('x');", "x", 2 + 5},                                                   // TxPtrAdd, TxCall, TsBlock, TxPut, TxConst
		{"putchar('x') + p();", "x", 2 + 5},                                                   // the same
		{"p()[putchar('x')];", "x", 2 + 2 + 5},                                                // TxRead, TxDeref, and the same
		{"p() - putchar('x');", "x", 2 + 7},                                                   // TxPtrAdd, TxCall, TsBlock, and 0 less the number: TxBin, TxConst, TxPut, TxConst
		{"p() - o();", "o", 2 + 11},                                                           // TxDiff, TxCall, TsBlock, TxCall, TsBlock, TsExpr, TxPut, TxConst, TsReturn, TxAddr, TxGlobal
		{"o() - p();", "o", 2 + 11},                                                           // the same, the other way round
		{"p() == o();", "o", 2 + 11},                                                          // a TxCmp in the place of the TxDiff
		{"p() < o();", "o", 2 + 11},                                                           // likewise
		{"p() != (putchar('x'), &x);", "x", 2 + 8},                                            // TxCmp, TxCall, TsBlock, TxComma, TxPut, TxConst, TxAddr, TxGlobal
		{"h(f(), putchar('x'));", "x", 2 + 5},                                                 // TxCall, TxCall, TsBlock, TxPut, TxConst
		{"h(putchar('x'), f());", "x", 2 + 5},                                                 // the same, the other way round
		{"h(f(), f());", "", 2 + 5},                                                           // TxCall, TxCall, TsBlock, TxCall, TsBlock
		{"k(g(), putchar('x'));", "x", 2 + 5 + 8},                                             // TxCall, TxCall, TsBlock, TxPut, TxConst, and the parameter's bytes
		{"k(s, f());", "", 2 + 13 + 8},                                                        // TxCall, TxRead and 8 bytes, TxGlobal, TxCall, TsBlock, and the first parameter's bytes
		{"l(f(), g(), putchar('x'));", "x", 2 + 7},                                            // none of the second parameter's bytes
		{"l(putchar('x'), g(), f());", "x", 2 + 7 + 8},                                        // the first parameter has got its number, the second one takes its steps
		{"s = g();", "", 2 + 4 + 8},                                                           // TxSet, TxGlobal, TxCall, TsBlock, and the bytes
		{"*q = (putchar('x'), g());", "x", 2 + 9 + 8},                                         // TxSet, TxDeref, TxRead, TxGlobal, TxComma, TxPut, TxConst, TxCall, TsBlock, and the bytes
		{"struct S z = g();", "", 1 + 9 + 6 + 8},                                              // TsBlock, TsZero and 8 bytes, TsExpr, TxSet, TxPart, TxLocal, TxCall, TsBlock, and the bytes
		{"struct { struct S s; int n; } z = { g(), putchar('x') };", "", 1 + 13 + 6 + 8},      // the same with 12 bytes of the TsZero; the other member is not begun
		{"struct { int n; struct S s; } z = { putchar('x'), g() };", "x", 1 + 13 + 6 + 6 + 8}, // behind the first member's TsExpr, TxSet, TxPart, TxLocal, TxPut, TxConst
		{"g().a;", "", 2 + 2 + 9 + 4 + 8},                                                     // TxRead, TxPart, TxLit and 8 bytes, TxSet, TxLocal, TxCall, TsBlock, and the bytes
		{"b.n = f();", "", 2 + 5},                                                             // TxSet, TxPart, TxGlobal, TxCall, TsBlock
		{"c() + putchar('x');", "", 2 + 4},                                                    // TxBin, TxConv, which takes it, TxCall, TsBlock
		{"f() + 1L * putchar('x');", "", 2 + 4},                                               // likewise
		{"(char *) p() - (putchar('x'), \"a\");", "", 2 + 4},                                  // likewise, a TxDiff
		{"putchar(f()) + putchar('x');", "", 2 + 4},                                           // TxBin, TxPut, TxCall, TsBlock
		{"*p() = putchar('x');", "", 2 + 4},                                                   // TxSet, TxDeref, TxCall, TsBlock
		{"*p() += putchar('x');", "", 2 + 4},                                                  // TxUpdate, TxDeref, TxCall, TsBlock
		{"f() && putchar('x');", "", 2 + 3},                                                   // TxAnd, TxCall, TsBlock
		{"f() || putchar('x');", "", 2 + 3},                                                   // TxOr, TxCall, TsBlock
		{"f() ? putchar('x') : putchar('y');", "", 2 + 3},                                     // TxCond, TxCall, TsBlock
		{"(x ? 1 : f()) + putchar('x');", "x", 2 + 1 + 5 + 2},                                 // TxBin, TxCond, TxRead, TxGlobal, TxCall, TsBlock, TxPut, TxConst
		{"h((putchar('x'), f()), (putchar('y'), f()));", "xy", 2 + 1 + 5 + 5},                 // TxCall, and TxComma, TxPut, TxConst, TxCall, TsBlock twice
		{"k(x ? s : g(), putchar('x'));", "x", 2 + 8 + 8},                                     // TxCall, TxCond, TxRead, TxGlobal, TxCall, TsBlock, TxPut, TxConst, and the parameter's bytes
		{"l(h(f(), putchar('x')), s, putchar('y'));", "x", 2 + 1 + 5},                         // the inner call takes it
		{"f() + (x = putchar('x'), h(x, putchar('y')));", "xyh", 2 + 3 + 1 + 4 + 5 + 1 + 3},   // TxBin, TxCall, TsBlock, TxComma, TxSet and its parts, TxCall and its parts, the call's TsBlock, TsReturn, TxPut, TxConst
	} {
		text := inMain(emptyHanded, e.text)
		if o := ran(t, text, "", enough); !same(o, api.Outcome{Stop: api.StopUndef, Out: []byte(e.out), Steps: e.steps}) {
			t.Errorf("%s: stop %d, out %q, %d steps, want out %q, %d steps", e.text, o.Stop, o.Out, o.Steps, e.out, e.steps)
		}
		for fuel := 1; fuel < e.steps; fuel++ {
			if o := ran(t, text, "", fuel); o.Stop != api.StopFuel || o.Steps != fuel {
				t.Errorf("%s by %d: %v", e.text, fuel, o)
			}
		}
		for fuel := 1; fuel <= e.steps+1; fuel++ {
			agrees(t, text, "", fuel)
		}
	}
}

// TestP12_3NothingBehindOtherEnds: where a part behind nothing ends the run, or the call that would take it does, the run ends so.
func TestP12_3NothingBehindOtherEnds(t *testing.T) {
	in := func(text string) string { return inMain(emptyHanded, text) }
	runs(t,
		exit(in("f() + (exit(3), 1);"), 3),
		exit(in("exit(f() + (exit(3), 1));"), 3),
		exit(in("p() + (exit(4), 1);"), 4),
		exit(in("p() - (exit(5), a);"), 5),
		exit(in("p() <= (exit(6), a);"), 6),
		exit(in("h(f(), (exit(7), 1));"), 7),
		exit(in("k(g(), (exit(8), 1));"), 8),
		exit(in("l(f(), (exit(9), s), f());"), 9),
		exit(in("x += f() + (exit(10), 1);"), 10),
		exit(in("putchar(f() + (exit(11), 1));"), 11),
		sample{text: in("f() + 1 / x;"), stop: api.StopZero},
		sample{text: in("h(f(), 1 % x);"), stop: api.StopZero},
		sample{text: in("h(f(), main());"), stop: api.StopDeep},
		sample{text: in("f() + main();"), stop: api.StopDeep},
		sample{text: "int f(void) { } int d(int n) { if (n) return d(n - 1); return d(f()); } int main(void) { return d(62); }", stop: api.StopDeep},
		undefined("int f(void) { } int d(int n) { if (n) return d(n - 1); return d(f()); } int main(void) { return d(61); }"),
		sample{text: "struct S { int a; } f(void) { } int d(int n, struct S s) { if (n) return d(n - 1, s); return d(0, f()); } int main(void) { struct S s = { 1 }; return d(62, s); }", stop: api.StopDeep},
		sample{text: "int f(void) { } int d(int n) { if (n) return d(n - 1); return d(f()); int " + names("a", 255) + "; } int main(void) { return d(7); }", stop: api.StopDeep},
		undefined("int f(void) { } int d(int n) { if (n) return d(n - 1); return d(f()); int "+names("a", 255)+"; } int main(void) { return d(6); }"),
	)
	for _, text := range []string{"f() + e();", "h(f(), e());", "p()[e()];", "k(g(), e());"} {
		ahead := emptyHanded + "int e(void) { for (;;) ; } "
		if o := ran(t, inMain(ahead, text), "", 500); !same(o, api.Outcome{Stop: api.StopFuel, Steps: 500}) {
			t.Errorf("%s: %v", text, o)
		}
	}
}

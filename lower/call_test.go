package lower

import (
	"fmt"
	"strings"
	"testing"

	"mortise/api"
	"mortise/tacrun"
)

// TestP15_3Deep: calls go as deep as they may; one deeper ends, somehow.
func TestP15_3Deep(t *testing.T) {
	const s = "struct S { char c[5]; int n; }; struct S f(struct S s, int n) { s.n += n; return n ? f(s, n - 1) : s; } "
	for _, c := range []struct {
		ahead, call string
		code        func(n int) int
	}{
		{"int f(int n) { return n ? f(n - 1) + 1 : 0; } ", "f(%d)", func(n int) int { return n }},
		{"int x; void f(int n) { int k = n; if (n) f(n - 1); x += k; } ", "(f(%d), x)", func(n int) int { return n * (n + 1) / 2 }},
		{"int f(int *p) { int n = *p - 1; return *p ? f(&n) + 1 : 0; } ", "f(&(int) { %d })", func(n int) int { return n }},
		{s, "f((struct S) { { 1 } }, %d).n", func(n int) int { return n * (n + 1) / 2 }},
		{"int g(int n); int f(int n) { return n ? g(n - 1) + 1 : 0; } int g(int n) { return n ? 2 + f(n - 1) : 0; } ", "f(%d)", func(n int) int { return n + n/2 }},
	} {
		deepest := api.MaxCalls - 2 // within main, and the last one calls none
		text := inMain(c.ahead, "return "+fmt.Sprintf(c.call, deepest)+";")
		runs(t, exits(text, c.code(deepest)))
		text = inMain(c.ahead, "return "+fmt.Sprintf(c.call, deepest+1)+";")
		if o := agrees(t, text, "", enough); o.Stop != api.StopDeep {
			t.Errorf("%s: %v", text, o)
		}
		if o, err := tacrun.Run(codeOf(t, text), nil, api.MaxFuel); err != api.OK || o.Stop == 0 {
			t.Errorf("%s: %v, error %d", text, o, err)
		}
	}
	runs(t, exits("int n; int main(void) { return n++ < 63 ? main() + 1 : 0; }", 63))
}

// TestP15_3Locals: as many locals as a function may have, and as all calls that go on may have together.
func TestP15_3Locals(t *testing.T) {
	const ahead = "struct S { char c[7]; } gs = { \"abc\" }; struct S up(struct S s) { s.c[0]++; return s; } int sum(struct S s, struct S u) { return s.c[0] + u.c[6]; } "
	for _, object := range []string{"int x%d = %[1]d; ", "char x%d = %[1]d; ", "struct S x%d = { { %[1]d } }; ", "short x%d[3] = { %[1]d }; "} {
		for _, n := range []int{253, 254, 255, 256} {
			var all strings.Builder
			for i := range n {
				fmt.Fprintf(&all, object, i)
			}
			last := fmt.Sprintf("return (unsigned char) *(char *) &x%d + *(char *) &x7; ", n-1)
			runs(t, exits(inMain(ahead, all.String()+last), n-1+7))
			spare := all.String() + "gs = up(up(gs)); if (sum(up(gs), up(up(gs))) != 100) return 0; " // records that lie nowhere else have room, too
			runs(t, exits(inMain(ahead, spare+last), n-1+7))
		}
	}
	many := ""
	for i := range 31 {
		many += fmt.Sprintf("int x%d = n; ", i)
	}
	f := "int f(int n) { " + many + "if (n) return f(n - 1) + x30 - x3; return x7; } " // 32 locals, and 63 calls
	runs(t, exits(inMain(ahead+f, "return f(62);"), 0))
	globals := ""
	for i := range 254 {
		globals += fmt.Sprintf("int g%d; ", i)
	}
	f = "int f(int n) { " + many[:len(many)-len("int x30 = n; ")] + "struct S t = up(gs); gs = up(up(t)); if (n) return f(n - 1) + sum(up(gs), up(t)); return g7; } "
	if o := agrees(t, inMain(ahead+globals+f, "return f(61);"), "", enough); o.Stop != api.StopExit {
		t.Errorf("%v", o)
	}
}

// TestP15_3Packed: locals that share slots are held against each other, and written, as others are.
func TestP15_3Packed(t *testing.T) {
	var all strings.Builder
	for i := range 251 {
		fmt.Fprintf(&all, "char c%d[%d] = { %d }; ", i, i%7+1, i)
	}
	const ahead = "struct S { char c; } s; struct S f(struct S s) { s.c++; return s; } struct L { char z[9000]; } g; struct L h(struct L l) { l.z[8999]++; return l; } "
	const asked = "int n[2] = { 1, 2 }, *p = n, *q = n + 1; struct L l = h(g), m = h(h(l)); s = f(f(s)); if (c1 == c2 || c1 + 1 == c2 || c3 != c3 || q - p != 1 || !(p < q) || (void *) p == c7) return 1; dump(c249, sizeof c249); dump(c0, 1); dump(c100, sizeof c100); dump(&m.z[8998], 2); dump(&l.z[8999], 1); dump(n, 8); dump(&s, 1); return 0;"
	text := inMain(showing+ahead, all.String()+asked)
	shows(t, text, "", 20)
	for _, f := range codeOf(t, text).Funcs {
		if f.Name == "main" && len(f.Slots) > 100 {
			t.Errorf("%d slots", len(f.Slots))
		}
	}
}

// TestP15_3Arguments: as many arguments as a function may have, of all sorts.
func TestP15_3Arguments(t *testing.T) {
	const ahead = "struct A { char c; } a = { 1 }; struct B { short s[3]; } b = { { 2, 3, 4 } }; struct C { int n[5]; } c = { { 5, 6, 7, 8, 9 } }; union U { char z[3]; } u = { { 10, 11, 12 } }; int x = 7; " +
		"struct C all(struct A a, char k, struct B b, int *p, struct C c, union U u, _Bool o) { out(a.c); out(k); out(b.s[2]); out(*p); out(c.n[4]); out(u.z[2]); out(o); a.c = 9; b.s[2] = 9; c.n[4]++; u.z[2] = 9; *p += 1; return c; } " +
		"int seven(char a, short b, int c, unsigned char d, unsigned short e, _Bool f, long g) { out(a); out(b); out(c); out(d); out(e); out(f); out(g); a++; g = a; return g; } " +
		"struct A one(struct A a, struct A b, struct A c, struct A d, struct A e, struct A f, struct A g) { a.c = a.c + b.c * 2 + c.c * 3 + d.c * 4 + e.c * 5 + f.c * 6 + g.c * 7; return a; } "
	for _, text := range []string{
		"c = all(a, 300, b, &x, c, u, 5); dump(&c, sizeof c); dump(&a, 1); dump(&b, sizeof b); dump(&u, 3); out(x);",
		"out(all(a, -1, b, &x, all(a, 2, b, &x, c, u, 0), u, x).n[4]); out(x);",
		"out(seven(300, 70000, -3, -1, -1, 256, 4294967295u)); out(seven(-1, -1, -1, 256, 65536, 0, -1));",
		"a = one(a, one(a, a, a, a, a, a, a), a, one(a, a, a, a, a, a, a), a, a, a); dump(&a, 1);",
		"struct A l = { 2 }; l = one(l, (l.c = 3, l), (l.c++, l), l, (struct A) { 5 }, l = (struct A) { 6 }, a); dump(&l, 1);",
	} {
		shows(t, inMain(showing+ahead, text+" return 0;"), "", 1)
	}
}

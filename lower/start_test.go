package lower

import (
	"fmt"
	"strings"
	"testing"

	"mortise/api"
)

// TestP15_3Initialised: locals begin with what their initialisers say, and with noughts where these say nothing, padding too, each time anew.
func TestP15_3Initialised(t *testing.T) {
	const types = "struct S { char c; int n; short h[2]; }; struct B { int a : 3; unsigned b : 7; char c; int d : 20; }; union U { char c; int n[3]; struct B b; }; struct M { struct S s[2]; union U u; struct { char z[5]; } t; int *p; }; int x = 3; int f(void) { return x++; } struct S gs = { 1, 2, { 3, 4 } }; struct S fs(void) { return gs; } "
	for _, object := range []string{
		"int o = 5", "char o = 300", "short o = -2", "_Bool o = 7", "unsigned o = f()", "int o = { 4 }", "enum E o = B",
		"int o[3] = { 1, 2, 3 }", "int o[3] = { 1 }", "int o[3] = { [2] = 7 }", "int o[3] = { f(), [1] = f() }", "int o[] = { 1, f(), 3, f(), 5 }", "int o[4] = { [2] = 5, 6, [0] = 7 }", "int o[3] = { 1, 2, 3, [0] = f() }", "int o[3] = { f(), 2, [0] = 4 }",
		"char o[7] = { 1, 2, 3, 4, 5 }", "char o[5] = { 1, f(), 3, 4, 5 }", "char o[6] = { f(), 2, 3, 4, 5, 6 }", "short o[3] = { 1, -1 }", "_Bool o[5] = { 3, 0, 1 }", "unsigned char o[9] = { 255, 256, 257 }",
		"char o[] = \"abc\"", "char o[8] = \"abc\"", "char o[3] = \"abc\"", "char o[2][4] = { \"ab\", \"cde\" }", "char o[] = { 'a', 0, 'b' }", "char o[4] = \"\"", "char o[] = \"\\0\\0x\"", "struct { char z[4], c[3]; } o = { \"ab\", .z[3] = 'z', .c = \"xy\" }", "char o[5] = { [0] = 9, [0] = 0, [3] = 1 }",
		"struct S o = { 1, 2, { 3, 4 } }", "struct S o = { 1 }", "struct S o = { .h = { 5 } }", "struct S o = { .n = f() }", "struct S o = gs", "struct S o = fs()", "struct S o = { f(), f(), { f(), f() } }", "struct S o[2] = { gs, { 7 } }", "struct S o[3] = { [1] = fs(), { 1 } }",
		"struct B o = { 1, 2, 3, 4 }", "struct B o = { .b = 100 }", "struct B o = { f(), f(), 9, f() }", "struct B o[3] = { { 1 }, { .d = -5 }, { 2, 3 } }", "struct B o = { .d = 1, .a = f() }", "struct B o = { .c = 9, .c = 8 }",
		"union U o = { 5 }", "union U o = { .n = { 1, 2, 3 } }", "union U o = { .b = { 1, 2, 3, 4 } }", "union U o = { .n[1] = f() }", "union U o = { .n = { 1, 2 }, .c = 9 }",
		"struct M o = { { { 1, 2 }, gs }, { 3 }, { \"abcd\" } }", "struct M o = { .s[1].h[1] = 7, .u.b.b = 5, .t = { { 1 } } }", "struct M o = { .u = { .n = { f() } }, .s = { [1] = { 4 } } }",
		"int o = 1, y = o", "int o = (x = 5, x + 1)", "struct S o = { sizeof o, sizeof o.h }", "int o[2] = { sizeof o, sizeof *o }", "struct S o = o", "struct S o = { 1, o.n + 3, { o.c } }", "int o[3] = { 4, o[0] + 1, o[1] + 1 }", "int o = o + 1", "struct S o = { .n = 2, .c = o.n }", "union U o = { .n = { 1, 2, o.n[0] } }", "int o[2] = { *o, o[1] }",
		"int o = 7; o = 0", "int o = 0; o = 0", "int o = 0; o = 5; o = 0; o = 0", "short o = 3; o = 4; o = 0; o = f()", "int o = f(); o = 0; o = 0", "struct S o = gs; o.c = 0; o.n = 0; o.h[0] = 0", "struct S o = gs; o.c = 0; o.c = 9", "struct S o = { 5 }; o.n = f(); o.c = 0; o.n = 0", "struct S o = fs(); o = gs; o.n = 0; o.c = 0",
		"int o[4] = { 5, 1 + f(), 2 - x, f() + 3 }", "int o[3] = { 1, x * 0, 0 * f() }", "int o[3] = { (char) x, (char) 300, (char) (x + 300) }", "int o[3] = { 1 / 1, 7 % 4, x / 1 }", "int o[2] = { -x, -3 }",
		"char o[2][3] = { { 1, 2 }, { f() } }", "int o[2][2] = { 1, 2, 3 }", "int o[2][2] = { { 1 }, { 2 } }", "int o[17] = { 1 }", "int o[16] = { 1 }", "char o[65] = { 1, 2 }", "char o[67] = { [66] = 3 }", "short o[35] = { [33] = f(), 9 }", "char o[100] = \"a string of some length, so that it is more than sixty-four bytes long\"", "int o[40] = { [20] = 5, [30] = f(), 6, 7 }", "struct S o[9] = { [7] = { 1, 2 } }",
		"int o[20] = { 1, -1, 2 + 3, 7 / 2, (char) 300, 0, 1 << 4, 'a', 5 > 2, ~0 }", "char o[4] = { 1 + 1, -1, (unsigned char) 511, 2 * 100 }",
	} {
		shows(t, inMain(showing+types, "int i; for (i = 0; i < 3; i++) { "+object+"; dump(&o, sizeof o); unsigned char *z = (unsigned char *) &o; int j; for (j = 0; j < sizeof o; j++) z[j] = 99; } out(x); return 0;"), "", 3)
	}
}

// TestP15_3Literals: compound literals begin anew each time they are come to, and have a place.
func TestP15_3Literals(t *testing.T) {
	const ahead = "struct S { char c; int n; } s; int sum(struct S s) { return s.c * 10 + s.n; } int at(int *p, int i) { return p[i]; } "
	bodies(t, ahead, map[string]int{
		"return sum((struct S) { 1, 2 });":                            12,
		"return (struct S) { 1, 2 }.n;":                               2,
		"return at((int[]) { 4, 5, 6 }, 1);":                          5,
		"return (int[3]) { 4, 5 }[2] + (char[]) { \"ab\" }[1];":       98,
		"struct S *p = &(struct S) { 1, 2 }; p->n++; return sum(*p);": 13,
		"int i, k = 0; for (i = 0; i < 3; i++) { int *p = (int[2]) { i }; k = k * 10 + p[0]++ + p[1]++; k += p[0]; } return k;":                   135,
		"int i, k = 0; for (i = 0; i < 3; i++) k = k * 10 + (int) { i }++; return k;":                                                             12,
		"return (int) { 5 } + (char) { 300 } + (int) { (int) { 2 } };":                                                                            51,
		"s = (struct S) { .n = 3 }; return sum(s);":                                                                                               3,
		"return ((struct S) { 4 } = (struct S) { 5, 6 }).n;":                                                                                      6,
		"return sizeof (int[5]) { 1 };":                                                                                                           20,
		"int *p = &(int) { 7 }, *q = &(int) { 8 }; *p = *q + 1; return *p * 10 + *q;":                                                             98,
		"return *(char *) &(int) { 258 };":                                                                                                        2,
		"struct { struct S s[2]; } *p = (void *) &(struct { struct S s[2]; }) { { { 1, 2 }, { 3 } } }; return sum(p->s[1]) * 100 + sum(p->s[0]);": 3012,
	})
}

// TestP15_3LiteralAgain: what was read of a literal stays as it was, though the literal begins anew.
func TestP15_3LiteralAgain(t *testing.T) {
	const ahead = "struct B { char c[4]; } b, *p = &b; int n; int keep(struct B a, char *z) { z[0] = n += 3; p = (struct B *) z; return a.c[0]; } "
	runs(t,
		exits(inMain(ahead, "int i, k = 0; for (i = 0; i < 3; i++) k = k * 10 + keep(*p, (char[4]) { \"\" }); return k;"), 36),
		exits(inMain(ahead, "int i, k = 0; for (i = 0; i < 3; i++) k = k * 10 + keep(*p, (char[4]) { 0 }); return k;"), 36),
		exits(inMain(ahead, "int i, k = 0; for (i = 0; i < 3; i++) k = k * 10 + keep(i ? *p : b, (char[4]) { 1, k }); return k;"), 36),
	)
}

// TestP15_3Fresh: locals that are not initialised, of inner blocks, whose addresses are taken.
func TestP15_3Fresh(t *testing.T) {
	const ahead = "int *keep; void set(int *p, int n) { *p = n; } void swap(int *p, int *q) { int t = *p; *p = *q; *q = t; } struct S { int a[3]; } ; void fill(struct S *s, int n) { int i; for (i = 0; i < 3; i++) s->a[i] = n + i; } "
	bodies(t, ahead, map[string]int{
		"int x; set(&x, 5); return x;":                             5,
		"int x, y; x = 3; y = 4; swap(&x, &y); return x * 10 + y;": 43,
		"int x = 1; { int x = 2; set(&x, 3); { int x; x = 9; } keep = &x; *keep += 1; if (x != 4) return 0; } return x;": 1,
		"int i, k = 0; for (i = 0; i < 4; i++) { int x; x = i; keep = &x; *keep *= 2; k += x; } return k;":               12,
		"struct S s; fill(&s, 3); return s.a[0] * 100 + s.a[1] * 10 + s.a[2];":                                           345,
		"struct S s[2], *p = s; fill(p++, 1); fill(p, 4); return s[0].a[2] * 10 + s[1].a[0];":                            34,
		"int x, *p = &x, **q = &p; **q = 6; return x;":                                                                   6,
		"char c[4]; *(int *) 0 == 1 ? 1 : 2; return 0;"[:10] + " c[1] = 7; return c[1];":                                 7,
		"int x; char *p = (char *) &x; p[0] = 1; p[1] = 2; p[2] = 0; p[3] = 0; return x;":                                513,
		"int x; (&x)[0] = 4; return *&x;":                                                                                4,
		"static int n; n++; int k = n; n++; return k * 10 + n;":                                                          12,
		"int a, b, c; a = b = c = 5; return a + b + c;":                                                                  15,
	})
}

// TestP15_3Stores: objects of all sizes, strings of all lengths.
func TestP15_3Stores(t *testing.T) {
	for _, size := range []int{1, 2, 3, 4, 5, 7, 8, 15, 16, 31, 33, 63, 64, 65, 66, 67, 68, 69, 100, 127, 128, 129, 1000, 16381, 16384} {
		for _, length := range []int{0, 1, 2, 5, size / 2, size - 1} {
			if length >= size || size > 1000 && length < 5 {
				continue
			}
			text := fmt.Sprintf("int i; for (i = sizeof(char[%[1]d]) > 1000; i < 2; i++) { unsigned char z[%[1]d] = \"%[2]s\"; unsigned h = 0; int j; for (j = 0; j < sizeof z; j++) h = h * 7 + z[j] + j; out(h); z[%[3]d] = z[0] = 5; } return 0;", size, strings.Repeat("ab\\0x", length/4)+strings.Repeat("y", length%4), size-1)
			shows(t, inMain(showing, text), "", 4)
		}
	}
}

// TestP15_1Strings: the longest strings that locals may be initialised by have code.
func TestP15_1Strings(t *testing.T) {
	full := strings.Repeat("abcdefgh", api.MaxSize/8-5)
	text := inMain(showing, "char a[] = \""+full+"\", b[16384] = \"!"+full+"\", c[] = \"?"+full+"\", d[16384] = { [16383] = 'x' }; out(a[16000]); out(b[16000]); out(c[16000]); out(d[16383] - d[16382]); return 0;")
	shows(t, text, "", 16)
	shows(t, inMain(showing, "struct { char z[16384]; } s = { \""+full+"\" }, t; t = s; out(t.z[1]); return 0;"), "", 4)
}

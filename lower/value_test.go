package lower

import (
	"fmt"
	"strings"
	"testing"
)

// kinds are the integer types.
func kinds() []string {
	return []string{"_Bool", "char", "signed char", "unsigned char", "short", "unsigned short", "int", "unsigned int", "long", "unsigned long", "enum E"}
}

// showing is what texts begin with that show numbers, and objects byte by byte.
const showing = "enum E { A = -1, B = 300 }; unsigned hash; void out(unsigned n) { putchar(n); putchar(n >> 8); putchar(n >> 16); putchar(n >> 24); } void add(unsigned n) { hash = hash * 31 + n; } " +
	"void dump(void *p, int n) { unsigned char *q = p; int i; for (i = 0; i < n; i++) putchar(q[i]); } "

// numbers are those at which kinds differ.
const numbers = "{ 0, 1, -1, 2, 100, 127, 128, 255, -129, 32767, 32768, 65535, -32769, 2147483647, -2147483647 - 1, 0x12345678 }"

// TestP15_3Conversions: a number of each kind as one of each other, cast, handed over, given back, set and put into a place.
func TestP15_3Conversions(t *testing.T) {
	for _, from := range kinds() {
		var functions, calls strings.Builder
		for i, to := range kinds() {
			fmt.Fprintf(&functions, "%s r%d(%s x) { return x; } void p%d(%s x) { out(x); } ", to, i, from, i, to)
			fmt.Fprintf(&calls, "{ %s y, z; y = x; out(y); out(z = x); out((%s) x); out((%s) (%s) x); out(r%d(x)); p%d(x); %s a[2] = { x, x }; out(a[1]); } ", to, to, from, to, i, i, to)
		}
		text := inMain(showing+functions.String()+from+" all[] = "+numbers+";", "int i; for (i = 0; i < 16; i++) { "+from+" x = all[i]; out(x); "+calls.String()+" } return 0;")
		shows(t, text, "", 16*4*(1+7*11))
	}
}

// TestP15_3Raw: places of each kind may have any bytes, which were put there otherwise.
func TestP15_3Raw(t *testing.T) {
	for _, kind := range kinds() {
		var casts strings.Builder
		for _, to := range kinds() {
			fmt.Fprintf(&casts, "out((%s) u.x); { %s y = u.x; out(y); } ", to, to)
		}
		text := inMain(showing, "union { "+kind+" x; unsigned char c[4]; struct { _Bool f : 1; } s; } u; int i; for (i = 0; i < 256; i += 5) { u.c[0] = i; u.c[1] = i + 1; u.c[2] = i * 3; u.c[3] = ~i; out(u.x); "+casts.String()+
			" u.s.f = u.x; dump(&u, 4); out(!u.x); out(u.x ? 1 : 2); out(u.x && 1); out(-u.x); u.x++; dump(&u, 4); u.x = u.x; dump(&u, 4); } return 0;")
		shows(t, text, "", 52*100)
	}
}

// TestP15_3Operations: each operation on each two kinds of numbers.
func TestP15_3Operations(t *testing.T) {
	var all strings.Builder
	for _, op := range strings.Fields("+ - * & | ^ << >> < > <= >= == != && ||") {
		fmt.Fprintf(&all, "add(x %s y); ", op)
	}
	for _, op := range []string{"/", "%"} {
		fmt.Fprintf(&all, "if (y) add(x %s y); ", op)
	}
	all.WriteString("add((x, y)); add(x ? x : y); add(y ? x : y); add(!x); add(~x); add(-y); add(+y); ")
	for _, left := range kinds() {
		for _, right := range kinds() {
			text := inMain(showing+left+" a[16] = "+numbers+"; "+right+" b[16] = "+numbers+";", "int i, j; for (i = 0; i < 16; i += 3) for (j = 0; j < 16; j += 2) { "+left+" x = a[i]; "+right+" y = b[j]; "+all.String()+"} out(hash); return 0;")
			shows(t, text, "", 4)
		}
	}
}

// TestP15_3Constants: an operation whose operands are constants, one of them or both.
func TestP15_3Constants(t *testing.T) {
	for _, op := range strings.Fields("+ - * / % & | ^ << >> < > <= >= == !=") {
		var all strings.Builder
		for _, n := range strings.Fields("1 2 5u 31 32 0x7fffffff 0x80000000 -1 -7 65535") {
			fmt.Fprintf(&all, "add(x %s %s); add(%s %s (x | 1)); add(%s %s 7); add(-9 %s %s); ", op, n, n, op, n, op, op, n)
		}
		text := inMain(showing+"int a[16] = "+numbers+";", "int i; for (i = 0; i < 16; i++) { int x = a[i]; "+all.String()+"} out(hash); return 0;")
		shows(t, text, "", 4)
	}
}

// TestP15_3Updates: each operation that sets a place of each kind, by a number of each kind; and one more, one less.
func TestP15_3Updates(t *testing.T) {
	var all strings.Builder
	for _, op := range strings.Fields("= += -= *= &= |= ^= <<= >>=") {
		fmt.Fprintf(&all, "add(x %s y); add(x); ", op)
	}
	for _, op := range []string{"/=", "%="} {
		fmt.Fprintf(&all, "if (y) { add(x %s y); add(x); } ", op)
	}
	all.WriteString("add(x++); add(x); add(++x); add(x--); add(x); add(--x); ")
	for _, left := range kinds() {
		for _, right := range kinds() {
			text := inMain(showing+left+" a[16] = "+numbers+"; "+right+" b[16] = "+numbers+";", "int i, j; for (i = 0; i < 16; i += 3) for (j = 0; j < 16; j += 2) { "+left+" x = a[i]; "+right+" y = b[j]; "+all.String()+"} out(hash); return 0;")
			shows(t, text, "", 4)
		}
	}
}

// TestP15_3Divisions: a division by zero ends the run, wherever it stands, behind what was put out ahead of it; what is not asked does not.
func TestP15_3Divisions(t *testing.T) {
	const ahead = "int zero, one = 1, *p = &one; struct S { int f : 4; int a[3]; } s; char c; int f(int a, int b) { return a; } struct S g(int n) { return s; }"
	for _, kind := range kinds() {
		for _, op := range []string{"/", "%"} {
			runs(t,
				sample{text: inMain("enum E { A }; "+kind+" x = 5, y;", "putchar('a'); y = 0; putchar('b'); x "+op+" y; putchar('c'); return 0;"), stop: 2, out: "ab"},
				sample{text: inMain("enum E { A }; "+kind+" x = 5, y;", "putchar('a'); x "+op+"= y; putchar('c'); return 0;"), stop: 2, out: "a"},
			)
		}
	}
	for _, text := range []string{"1 / 0;", "1 % 0u;", "return 1 / zero;", "one /= zero;", "one %= zero;", "c %= zero;", "s.f /= 0;", "f(1, 2 / zero);", "f(1 / zero, putchar('b'));", "p[1 / zero];", "*(p + 1 / zero);", "s.a[1 / zero] = 1;",
		"if (1 / zero) ;", "while (1 / zero) ;", "do ; while (1 / zero);", "for (1 / zero; ;) ;", "for (;1 / zero;) ;", "for (;;1 / zero) ;", "(void) (1 / zero);", "1 / zero, 2;", "2, 1 / zero;", "one && 1 / zero;", "zero || 1 / zero;",
		"one ? 1 / zero : 2;", "zero ? 2 : 1 / zero;", "!(1 / zero);", "-(1 / zero);", "(char) (1 / zero);", "putchar(1 / zero);", "exit(1 / zero);", "int x = 1 / zero;", "int x[3] = { 1, 2 / zero };", "(struct S) { 1 / zero };", "g(1 / zero);",
		"s = g(1 / zero);", "s = (1 / zero, s);", "s = 1 / zero ? s : s;", "&s.a[1 / zero];", "&p[1 / zero];", "1 / zero == 2;", "p == p + 1 / zero;", "int x = 1, y = x / zero;", "int x = 1 / 0;", "int x[2] = { 3, 1 % 0 };", "(int) (1 / 0u);", "char z[2] = { 1 / zero };"} {
		runs(t, sample{text: inMain(ahead, "putchar('a'); "+text+" putchar('z'); return 0;"), stop: 2, out: "a"})
	}
	runs(t,
		puts(inMain(ahead, "zero && 1 / zero; one || 1 / zero; zero ? 1 / zero : 2; one ? 2 : 1 / zero; if (zero) 1 / zero; while (zero) 1 / zero; putchar('z'); return 0;"), "z"),
		sample{text: inMain(ahead, "f(putchar('b'), 1 / zero); return 0;"), stop: 2, out: "b"},
		sample{text: inMain(ahead, "putchar('b') + 1 / zero; return 0;"), stop: 2, out: "b"},
		sample{text: inMain(ahead, "*(putchar('b'), p) = 1 / zero; return 0;"), stop: 2, out: "b"},
		exits(inMain("int n = -2147483647 - 1, m = -1;", "return n / m == n && n % m == 0;"), 1),
	)
}

// TestP15_3Logic: what need not be asked is not done; truths are 1 and 0.
func TestP15_3Logic(t *testing.T) {
	const ahead = "int p(int n) { putchar('a' + n); return n; } int *q(int n) { static int x; putchar('p' + n); return n ? &x : 0; } int o(int n) { putchar('0' + n); return 0; }"
	for text, out := range map[string]string{
		"o(p(1) && p(2));":                                              "bc1",
		"o(p(0) && p(2));":                                              "a0",
		"o(p(0) || p(2));":                                              "ac1",
		"o(p(3) || p(2));":                                              "d1",
		"o(p(0) || p(0));":                                              "aa0",
		"o(!p(0)); o(!p(5));":                                           "a1f0",
		"o(!!p(5));":                                                    "f1",
		"o(p(1) && p(0) || p(2));":                                      "bac1",
		"o(p(0) && p(1) || p(0) && p(2));":                              "aa0",
		"o((p(0) || p(1)) && (p(2) || p(3)));":                          "abc1",
		"o(!(p(0) || p(1)));":                                           "ab0",
		"o(!(p(1) && p(0)));":                                           "ba1",
		"o(!(!p(1) && p(0)));":                                          "b1",
		"o(q(1) && q(0));":                                              "qp0",
		"o(q(0) || q(1));":                                              "pq1",
		"o(!q(0)); o(!q(1)); o((_Bool) q(1));":                          "p1q0q1",
		"o(p(1) ? p(2) : p(3));":                                        "bc2",
		"o(p(0) ? p(2) : p(3));":                                        "ad3",
		"o(p(1) ? p(0) ? p(2) : p(3) : p(4));":                          "bad3",
		"o(p(0) ? 1 : p(0) ? 2 : 3);":                                   "aa3",
		"o((p(1), p(2), p(3)));":                                        "bcd3",
		"p(1) && p(2); p(0) || p(3);":                                   "bcad",
		"if (p(1) && !p(0)) o(1); else o(2);":                           "ba1",
		"if (!(p(1) || p(2))) o(1); else o(2);":                         "b2",
		"if (p(0) || p(0)) o(1); else o(2);":                            "aa2",
		"if (p(0)) o(1); o(3);":                                         "a3",
		"if (q(0)) o(1); else if (q(1)) o(2);":                          "pq2",
		"if (1) o(1); else o(2); if (0) o(3);":                          "1",
		"o(p(1) + p(2) * p(0) - p(1));":                                 "bcab0",
		"o((p(3) < p(4)) + (p(4) > p(3)));":                             "dede2",
		"int x = p(2) && p(1); o(x + (0 && p(1)) + (1 || p(2)));":       "cb2",
		"p(1) ? p(2) : p(3); p(0) ? (void) p(4) : (void) p(5);":         "bcaf",
		"int i = 0; while (i < 2 && p(i) < 5) i++; o(i);":               "ab2",
		"int i = 3; do i--; while (!(p(i) == 0 || p(i) > 5)); o(i);":    "ccbba0",
		"unsigned char c = 255; c++ || p(1); c-- || p(2); o(c == 255);": "c1",
	} {
		runs(t, puts(inMain(ahead, text+" return 0;"), out))
	}
}

// TestP15_3Pointers: each operation on pointers, and on pointers and numbers.
func TestP15_3Pointers(t *testing.T) {
	const ahead = "struct S { char c[3]; } s[5]; int x[5] = { 1, 2, 3, 4, 5 }, *p = x + 2, *null, m[2][3] = { { 1, 2, 3 }, { 4, 5, 6 } }; char z[4] = \"abc\"; int i = 1; unsigned char u = 2; struct N { int n; struct N *next; } n[3] = { { 7, n + 1 }, { 8, n + 2 }, { 9 } }; "
	bodies(t, ahead, map[string]int{
		"return *p * 10 + p[1];":                               34,
		"return *(p - 1) * 10 + *(1 + p);":                     24,
		"return p[-2] * 10 + (-1)[p];":                         12,
		"return p[i] + p[-i] + p[u] + *(p - u);":               4 + 2 + 5 + 1,
		"p++; return *p;":                                      4,
		"return *p++ * 10 + *p;":                               34,
		"return *--p * 10 + *p--;":                             22,
		"p += 2; p -= i; return *p;":                           4,
		"int *q = p + i; return (q - p) * 10 + (p - q);":       9,
		"return &s[4] - &s[1];":                                3,
		"return (&s[1] - &s[4]) * 2;":                          -6,
		"return &z[3] - z;":                                    3,
		"return m[1][2] * 100 + *m[1] * 10 + **m;":             641,
		"return (*(m + i))[2] * 10 + *(*(m + 1) + 1);":         65,
		"short h[4]; return (&h[3] - h) * 10 + (h - &h[2]);":   28,
		"struct D { char c[12]; } d[3]; return &d[2] - &d[0];": 2,
		"return &m[1] - m;":                                    1,
		"int (*q)[3] = m; q++; return (*q)[1];":                5,
		"return x[x[x[0]]];":                                   3,
		"return *&*&p[1];":                                     4,
		"return &x[3] == p + 1;":                               1,
		"return &x[5] - p;":                                    3,
		"return (p < x + 3) * 8 + (p > x + 3) * 4 + (p <= x + 2) * 2 + (p >= x + 3);":                                            10,
		"return (p == x + 2) * 8 + (p != x + 2) * 4 + (p == x) * 2 + (p != x);":                                                  9,
		"return (p == 0) * 8 + (0 == p) * 4 + (null == 0) * 2 + (null != 0);":                                                    2,
		"return !p * 4 + !null * 2 + (p != null);":                                                                               3,
		"void *v = p; return *(int *) v * 10 + (v == p) + (p == v);":                                                             32,
		"return (p ? p : x) == p;":                                                                                               1,
		"return *(i ? p : 0) + *(!i ? 0 : x);":                                                                                   4,
		"return n->next->next->n * 10 + (*n).next->n;":                                                                           98,
		"struct N *q; int k = 0; for (q = n; q; q = q->next) k = k * 10 + q->n; return k;":                                       789,
		"int **q = &p; ++*q; **q = 9; return x[3];":                                                                              9,
		"int **q = &p; *(*q)++ += 5; return x[2] * 10 + *p;":                                                                     84,
		"char *q = z; int k = 0; while (*q) k += *q++; return k;":                                                                97 + 98 + 99,
		"return *(z + (p - x)) + \"xyz\"[1];":                                                                                    99 + 121,
		"return ((char *) p)[0] * 10 + *((unsigned char *) &p[1] + 0);":                                                          34,
		"int *q[2] = { p, x }; return *q[1] * 10 + q[0][1];":                                                                     14,
		"return (&(struct N) { 6 })->next ? 1 : 2;":                                                                              2,
		"p = &x[4]; p -= 4; return *p;":                                                                                          1,
		"return *(int *) (void *) (char *) p;":                                                                                   3,
		"unsigned k = 0xffffffff; return p[k];":                                                                                  2,
		"char k = -1; return *(p + k) * 10 + *(p - k);":                                                                          24,
		"_Bool k = 1; return p[k];":                                                                                              4,
		"int a[3], *q = a; *q++ = 4; *q++ = 5; *q = 6; return a[0] * 100 + a[1] * 10 + *(a + 2);":                                456,
		"int a = 3, *q = &a, **r = &q; (**r)++; *q *= 2; return a;":                                                              8,
		"struct S *q = s; q->c[1] = 5; (q + 1)->c[2] = 6; (++q)->c[0] = 7; return s[0].c[1] * 100 + s[1].c[2] * 10 + s[1].c[0];": 567,
	})
}

// TestP15_3Far: places far outside of what there is have code, too, which may not be come to.
func TestP15_3Far(t *testing.T) {
	const ahead = "char c[16384]; struct S { char z[16380]; int f : 20, g : 12; } s, *q = &s; int zero, x[4] = { 1, 2, 3, 4 }, *p = x; struct T { short h[3]; } t, *r = &t; "
	for _, place := range []string{"c[16384]", "c[16385]", "c[16387]", "c[16388]", "c[16389]", "c[20000]", "c[-1]", "c[-16384]", "c[-16385]", "c[100000]", "c[-100000]", "c[2147483647]", "c[0x80000000]", "x[4]", "x[-1]", "x[4096]", "x[-4097]", "x[1 << 29]", "p[4096]", "p[-5000]", "p[1 << 28]", "p[1 << 30]", "l[5]", "l[-1]", "l[40000]", "l[-40000]",
		"q[1].f", "q[-1].g", "q[1].g", "(&s)[1].f", "(&s)[-1].g", "(&s)[2].z[3]", "q[100000].f", "(p + 1000000 - 1000000)[2000000]", "(&x[1 << 20])[1 << 20]", "((&l[1 << 28])[1 << 28])", "(*(&k + 1))", "(&k)[-1]", "(&k)[9999]"} {
		for _, use := range []string{"%;", "% = 1;", "%++;", "&%;", "return % = % + 2;"} {
			if use == "&%;" && (strings.HasSuffix(place, "f") || strings.HasSuffix(place, "g")) {
				continue
			}
			runs(t, exits(inMain(ahead, "int k = 0, l[5] = { 0 }; if (zero) { "+strings.ReplaceAll(use, "%", place)+" } l[4] = 6; return l[4] + k;"), 6))
		}
	}
	for _, use := range []string{"r[9999] = t;", "t = r[-9999];", "(&u)[5000] = (&u)[-5000];", "(&t)[1] = u;", "f(r[1 << 28], (&u)[3]);", "f((&t)[9999], t = u);"} {
		runs(t, exits(inMain(ahead+"int f(struct T a, struct T b) { return 0; }", "struct T u = { { 1 } }; if (zero) { "+use+" } return u.h[0];"), 1))
	}
	runs(t,
		exits(inMain(ahead, "s.g = -5; q->f = 77777; c[16383] = 3; return s.g * 10 + q->f + c[16383];"), -50+77777+3),
		exits(inMain(ahead, "struct S l = { \"ab\" }, *m = &l; l.g = -5; m->f = 77777; l.z[16379] = 3; return l.g * 10 + m->f + m->z[16379];"), -50+77777+3),
		exits(inMain(ahead, "char *e = c + 16384; e[-16384] = 4; e[-1] = 5; return c[0] * 10 + *(e - 1);"), 45),
		exits(inMain(ahead, "return &c[16384] - &c[16383] + (&s + 1 > q) + (&s + 1 - q);"), 3),
	)
}

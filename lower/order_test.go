package lower

import "testing"

// TestP15_3Order: operands, arguments, places and values are done in the order that layer 12 says, and what was read ahead stays as it was.
func TestP15_3Order(t *testing.T) {
	const ahead = "int x, a[4] = { 1, 2, 3, 4 }, *q = a; int p(int n) { putchar('a' + n); return n; } int *at(int n) { putchar('A' + n); return a + n; } int set(int n) { x = n; return 0; } " +
		"int f(int a, int b, int c) { putchar('0' + a); putchar('0' + b); putchar('0' + c); return a; } struct S { int n, m; } s = { 1, 2 }, z[2]; struct S g(int n) { putchar('s'); struct S s = { n, n + 1 }; return s; } int h(struct S a, struct S b, int n) { putchar('0' + a.n); putchar('0' + b.n); return n; } " +
		"int turn(int n) { s.n = n; z[0].n = n; return n; } struct S back(int n) { s.n = n; return z[1]; } struct S *sp(int n) { putchar('Z' - n); return z + n; } "
	for text, out := range map[string]string{
		"f(p(1), p(2), p(3));":        "bcd123",
		"f(x, set(5), x);":            "005",
		"f(x++, x++, x++);":           "012",
		"f(++x, x, x--);":             "111",
		"x = 3; f(x, x = 4, x);":      "344",
		"x = 2; f(x + set(7), x, 0);": "270",
		"x = 2; f(set(7) + x, x, 0);": "770",
		"*at(1) = p(3);":              "Bd",
		"*at(1) += p(3);":             "Bd",
		"at(1)[p(1)] = p(3);":         "Bbd",
		"*at(0) = *at(1) = p(2);":     "ABc",
		"(*at(2))++; --*at(0);":       "CA",
		"p(1) - p(2) < p(3);":         "bcd",
		"p(1) > p(2); p(1) >= p(2); at(1) > at(0); at(2) >= at(3);": "cbcbABDC",
		"p(1)[at(1)]; at(1)[p(1)];":                                 "BbBb",
		"p(1) + at(1); at(1) + p(1); at(1) - p(1);":                 "BbBbBb",
		"at(3) - at(1);":                                                         "DB",
		"at(3) == at(1); at(3) != at(1);":                                        "DBDB",
		"p(1), p(2), p(3);":                                                      "bcd",
		"*sp(1) = g(p(1));":                                                      "Ybs",
		"*sp(1) = *sp(0) = g(2);":                                                "YZs",
		"sp(1)->m = sp(0)->n = p(2);":                                            "YZc",
		"h(g(1), g(2), p(3));":                                                   "ssd12",
		"h(s, (s.n = 5, s), s.n = 7);":                                           "15",
		"h(s, s = g(4), 0);":                                                     "s14",
		"h(s = g(3), s = g(4), s.n = 9);":                                        "ss34",
		"h(z[0] = g(3), (z[0].n = 5, s), 0);":                                    "s31",
		"h(*sp(0), *sp(1), sp(0)->n = 3);":                                       "ZYZ00",
		"h(h(s, s, 0) ? s : g(6), s, 0);":                                        "11s61",
		"h(g(h(s, g(8), 3)), g(2), p(0));":                                       "s18ssa32",
		"h((struct S) { p(4) }, (struct S) { p(5), p(6) }, 1);":                  "efg45",
		"h(x ? s : g(2), x ? g(3) : s, x = 1);":                                  "s21",
		"h(s, s, turn(8));":                                                      "11",
		"h(s, back(8), 0);":                                                      "10",
		"h(s, z[0], turn(8) + turn(9));":                                         "10",
		"h(*sp(0), s, (turn(5), turn(6)));":                                      "Z01",
		"h(h(s, s, turn(3)) ? s : z[1], s, turn(4));":                            "1133",
		"h(back(7), back(8), turn(9));":                                          "00",
		"h(s, s, h(s, s, turn(8)));":                                             "1111",
		"h(x ? s : z[1], turn(2) ? s : z[1], turn(3));":                          "02",
		"h((turn(2), s), (turn(3), s), (turn(4), 0));":                           "23",
		"x = a[x] = x + 2; f(x, a[0], a[2]);":                                    "223",
		"x = 1; a[x] = x = 2; f(a[1], a[2], x);":                                 "232",
		"x = 1; a[x++] = x; f(a[1], a[2], x);":                                   "232",
		"x = 1; a[x++] += x; f(a[1], a[2], x);":                                  "432",
		"x = 5; x += x++; f(x, 0, 0);":                                           ":00",
		"x = 5; x = x++ + ++x; f(x, 0, 0);":                                      "<00",
		"x = 1; x += x += x; f(x, 0, 0);":                                        "300",
		"x = 1; x += (x = 4) + x; f(x, 0, 0);":                                   "900",
		"x = 3; x = x-- - --x; f(x, 0, 0);":                                      "200",
		"*q++ = *q + 5; f(a[0], q - a, 0);":                                      "710",
		"q[0] += (q++, 3); f(a[0], q - a, 0);":                                   "410",
		"*(q = a + 1) = (q = a + 2, 8); f(a[1], q - a, 0);":                      "820",
		"s.n = (s = g(3), s.m); f(s.n, s.m, 0);":                                 "s440",
		"z[x].n = x = 1; f(z[0].n, z[1].n, x);":                                  "101",
		"int y = x++, w = x++, v = x; f(y, w, v);":                               "012",
		"int y[3] = { x++, x++, x++ }; f(y[0], y[1], y[2]);":                     "012",
		"int y[3] = { [2] = x++, [0] = x++, x++ }; f(y[0], y[1], y[2]);":         "120",
		"struct S y = { p(1), p(2) }, w = g(p(3)); h(y, w, 0);":                  "bcds13",
		"putchar('0' + putchar('1') - '0');":                                     "11",
		"putchar(p(3) + 'e');":                                                   "dh",
		"f(p(0) || p(1), p(2) && p(0), p(3) ? 4 : p(5));":                        "abcad104",
		"f(putchar('x') == 'x', putchar(-1) == 255, putchar(256 + 'y') == 'y');": "x\xffy111",
	} {
		runs(t, puts(inMain(ahead, text+" return 0;"), out))
	}
}

// TestP15_3Old: in an operation that sets a place, what that had is read ahead of the value, also where operations stand within each other.
func TestP15_3Old(t *testing.T) {
	const ahead = "int x = 1, y = 2, a[3] = { 1, 2, 3 }, *p = a; char c = 5; struct B { int f : 4; unsigned g : 3; } b = { 3, 2 }; int inc(void) { return ++x; } int deep(int n) { int k = n; return n ? k += deep(n - 1) : 0; } int rec(int n) { return n ? x += rec(n - 1) : 1; } "
	bodies(t, ahead, map[string]int{
		"x += inc() + x; return x;":                    5,
		"x += y += x; return x * 10 + y;":              43,
		"x += (y += (x += 5)) * 2; return x * 10 + y;": 178,
		"x -= y++ + ++y; return x * 10 + y;":           -46,
		"b.f += b.g += 1; return b.f * 10 + b.g;":      63,
		"b.f -= (b.f = 7) - 9; return b.f;":            5,
		"c += c++ + c--; return c;":                    16,
		"a[1] += a[x++] *= 5; return a[1] * 10 + x;":   122,
		"*p++ += *p; return a[0] * 10 + (p - a);":      31,
		"*p += (p++, *p); return a[0];":                3,
		"p += p - a + (p++ - a); return p - a;":        0,
		"return deep(5);":                              15,
		"return rec(4) * 100 + x;":                     505,
		"return (x = 5) + (x += 2) * x++ + x;":         5 + 49 + 8,
		"return x++ + (y += x) * (x -= y) - x--;":      1 + 4*-2 - -2,
	})
}

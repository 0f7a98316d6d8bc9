package model

import (
	"fmt"
	"testing"

	"mortise/api"
)

// someInts are numbers at edges.
func someInts() []int64 {
	return []int64{0, 1, -1, 2, -2, 3, 7, -7, 31, 32, 33, 100, -100, 65535, 65536, 2147483647, -2147483648, -2147483647}
}

// signedBin is what an operator makes of two ints, and whether it is defined.
func signedBin(op string, a, b int64) (int64, bool) {
	switch op {
	case "+":
		return a + b, true
	case "-":
		return a - b, true
	case "*":
		return a * b, true
	case "/", "%":
		if b == 0 {
			return 0, false
		}
		if op == "/" {
			return a / b, true
		}
		return a % b, true
	case "&":
		return a & b, true
	case "|":
		return a | b, true
	case "^":
		return a ^ b, true
	case "<<":
		return a << (b & 31), true
	case ">>":
		return a >> (b & 31), true
	}
	yes := map[string]bool{"==": a == b, "!=": a != b, "<": a < b, "<=": a <= b, ">": a > b, ">=": a >= b}[op]
	if yes {
		return 1, true
	}
	return 0, true
}

// TestP12_3Numbers: each operator of ints and of unsigned ints, at the edges.
func TestP12_3Numbers(t *testing.T) {
	for _, op := range []string{"+", "-", "*", "/", "%", "&", "|", "^", "<<", ">>", "==", "!=", "<", "<=", ">", ">="} {
		p := programOf(t, fmt.Sprintf("int in(void) { int n = getchar(); n |= getchar() << 8; n |= getchar() << 16; return n | getchar() << 24; } int main(void) { int a = in(), b = in(); return a %s b; }", op))
		q := programOf(t, fmt.Sprintf("unsigned in(void) { unsigned n = getchar(); n |= getchar() << 8; n |= getchar() << 16; return n | getchar() << 24; } int main(void) { unsigned a = in(), b = in(); return a %s b; }", op))
		for _, a := range someInts() {
			for _, b := range someInts() {
				input := []byte{byte(a), byte(a >> 8), byte(a >> 16), byte(a >> 24), byte(b), byte(b >> 8), byte(b >> 16), byte(b >> 24)}
				for i, prog := range []api.Prog{p, q} {
					x, y := a, b
					if i == 1 {
						x, y = a&(1<<32-1), b&(1<<32-1)
					}
					n, ok := signedBin(op, x, y)
					want := api.Outcome{Stop: api.StopExit, Code: int(int32(n))}
					if !ok {
						want = api.Outcome{Stop: api.StopZero}
					}
					if o, _ := Run(prog, input, enough); o.Stop != want.Stop || o.Code != want.Code {
						t.Errorf("%d %s %d: %v, want %v", x, op, y, o, want)
					}
				}
			}
		}
	}
}

// TestP12_3Zero: a division by zero ends the run, and what stands behind it is not done.
func TestP12_3Zero(t *testing.T) {
	for _, text := range []string{
		"1 / x;", "1 % x;", "1u / x;", "1u % x;", "y /= x;", "y %= x;", "c /= 0;", "x / x;", "(char) 1 / (_Bool) x;", "a[1 / x];", "putchar(1 / x);", "if (1 / x) ;", "x ? 1 : 1 / x;", "y && 1 / x;", "x || 1 / x;", "(int) { 1 / x };", "return 1 / x;", "exit(1 % x);", "s.f / s.f;", "s.f %= x;",
	} {
		runs(t, sample{inMain("int x, y = 1, a[2]; char c; struct { int f : 3; } s; ", "putchar('a'); "+text+" putchar('b'); return 3;"), api.StopZero, 0, "a"})
	}
	runs(t,
		exit(inMain("int x, y = 1; ", "x && 1 / x; y || 1 / x; y ? 1 : 1 / x; x ? 1 / x : 2; return 5;"), 5),
		sample{"int main(void) { return putchar('a') / (putchar('b') - 'b'); }", api.StopZero, 0, "ab"},
		exit("int main(void) { int x = -2147483647 - 1, y = -1; return x / y == x && x % y == 0; }", 1),
	)
}

// TestP12_3PointersMove: pointers move within their block and to its end, by 32 bits.
func TestP12_3PointersMove(t *testing.T) {
	const head = "int a[4] = { 1, 2, 3, 4 }, *p = a, n; char c[5]; struct { short h[3]; } s[2]; "
	for text, code := range map[string]int{
		"return *(p + 3);":                         4,
		"return *(3 + p);":                         4,
		"p = a + 4; return p[-1] + *(p - 4);":      5,
		"p = a + 4; return p - a;":                 4,
		"return a - (a + 4);":                      -4,
		"return &a[3] - &a[1];":                    2,
		"return (c + 5) - c;":                      5,
		"return (s + 2) - s;":                      2,
		"return (char *) (s + 1) - (char *) s;":    6,
		"return &s[1].h[2] - s[0].h;":              5,
		"return p++ == a && p == a + 1;":           1,
		"return *p++ * 100 + *++p * 10 + *--p;":    100 + 30 + 2,
		"p += 2; p -= 1; return *p;":               2,
		"p += 4; p -= 4; return *p;":               1,
		"return *(p + 1073741824);":                1, // 2^32 bytes
		"return *(p + (-1073741824 + 1));":         2,
		"return *(p + 1073741825u);":               2,
		"p = a + 4; return *(p + 0x7fffffff);":     4,
		"return *(p - 2147483647);":                2, // 4 less 2^33 bytes
		"return p + 2 > p && p <= p && p >= a;":    1,
		"return p[n] + n[p] + (p + 1)[n];":         4,
		"return *(a + (char) 257);":                2,
		"return &p[4] == a + 4 && &4[p] == a + 4;": 1,
	} {
		runs(t, exit(inMain(head, text), code))
	}
	for _, text := range []string{
		"p + 5;", "p - 1;", "p + -1;", "5 + p;", "p += 5;", "p -= 1;", "p--;", "p = a + 4; p++;", "p = a + 4; ++p;", "&p[5];", "p + 2147483647;", "c + 6;", "&s[3];", "s - 1;",
		"p[4];", "p[-1];", "*(a + 4);", "a[4] = 1;", "a[4]++;", "p = 0; p + 0;", "p = 0; p - 0;", "p = 0; p++;", "p = 0; p + 1;", "p = 0; p[0];", "&n + 2;", "&n - 1;", "(char *) &n + 5;",
	} {
		runs(t, undefined(inMain(head, text+" return 9;")))
	}
}

// TestP12_3PointersApart: only pointers into one block are subtracted, and only by whole elements.
func TestP12_3PointersApart(t *testing.T) {
	const head = "int a[4], b[4], *p; char c[8]; "
	for _, text := range []string{
		"a - b;", "p - p;", "p - a;", "a - p;", "(int *) ((char *) a + 2) - a;", "a - (int *) ((char *) a + 1);", "(int *) ((char *) a + 7) - a;",
	} {
		runs(t, undefined(inMain(head, text+" return 9;")))
	}
	runs(t,
		exit(inMain(head, "return (int *) ((char *) a + 8) - a;"), 2),
		exit(inMain(head, "return (short *) ((char *) a + 6) - (short *) a;"), 3),
		exit(inMain(head, "return (int *) ((char *) a + 7) - (int *) ((char *) a + 3);"), 1),
		exit(inMain(head, "return (int *) (c + 3) - (int *) (c + 7);"), -1),
		undefined("int *f(void) { int x; return &x; } int main(void) { int *p = f(); return p - p; }"),
	)
}

// TestP12_3PointersCompared: what may be held against each other.
func TestP12_3PointersCompared(t *testing.T) {
	const head = "int a[4], b[4], *p = a, *z; void *v = a; "
	for text, code := range map[string]int{
		"a == a": 1, "a != a": 0, "a == a + 1": 0, "a < a + 1": 1, "a + 1 < a": 0, "a <= a": 1, "a > a": 0, "a >= a": 1, "a + 4 > a + 3": 1, "a + 4 >= a + 4": 1, "a + 4 == a + 4": 1, "a + 4 != a": 1,
		"a == b": 0, "a != b": 1, "a + 3 == b + 3": 0, "a == 0": 0, "0 != a": 1, "p == 0": 0, "z == 0": 1, "z != 0": 0, "0 == z": 1, "z == z": 1, "z < z": 0, "z <= z": 1, "z == a": 0, "a == z": 0, "z != a": 1,
		"v == a": 1, "a == v": 1, "v == (void *) 0": 0, "!z": 1, "!p": 0, "z || p": 1, "z && p": 0, "p ? 3 : 4": 3, "z ? 3 : 4": 4, "a + 4 ? 1 : 2": 1, "a + 4 == 0": 0, "(_Bool) p": 1, "(_Bool) z": 0, "(_Bool) (a + 4)": 1,
	} {
		runs(t, exit(inMain(head, "return "+text+";"), code))
	}
	for _, text := range []string{"a < b", "a <= b", "a > b", "a >= b", "a + 4 == b", "a == b + 4", "a + 4 != b + 4", "z < a", "a > z", "a <= z", "z >= a"} {
		runs(t, undefined(inMain(head, "return "+text+";")))
	}
	for _, text := range []string{"p == p", "p != a", "p == 0", "!p", "p && 1", "p || 1", "p ? 1 : 2", "p < p", "(_Bool) p"} {
		runs(t, undefined("int a[2], *f(void); int *f(void) { int x; return &x; } int main(void) { int *p = f(); return "+text+"; }"))
	}
}

// TestP12_3Logic: what need not be asked is not.
func TestP12_3Logic(t *testing.T) {
	const head = "int y(int c) { putchar(c); return 5; } int n(int c) { putchar(c); return 0; } void v(int c) { putchar(c); } "
	for _, s := range []sample{
		{"y('a') && y('b')", 1, 1, "ab"}, {"y('a') && n('b')", 1, 0, "ab"}, {"n('a') && y('b')", 1, 0, "a"}, {"n('a') && n('b')", 1, 0, "a"},
		{"y('a') || y('b')", 1, 1, "a"}, {"y('a') || n('b')", 1, 1, "a"}, {"n('a') || y('b')", 1, 1, "ab"}, {"n('a') || n('b')", 1, 0, "ab"},
		{"y('a') ? y('b') : n('c')", 1, 5, "ab"}, {"n('a') ? y('b') : n('c')", 1, 0, "ac"}, {"!y('a')", 1, 0, "a"}, {"!n('a')", 1, 1, "a"}, {"!!y('a')", 1, 1, "a"},
		{"n('a') && y('b') || y('c')", 1, 1, "ac"}, {"y('a') && (n('b') || y('c')) && y('d')", 1, 1, "abcd"}, {"n('a') || n('b') && y('c')", 1, 0, "ab"},
		{"(y('a'), n('b'))", 1, 0, "ab"}, {"(v('a'), y('b'))", 1, 5, "ab"}, {"(y('a') ? v('b') : v('c'), 3)", 1, 3, "ab"}, {"y('a') ? n('b') ? 1 : y('c') + 1 : 2", 1, 6, "abc"},
		{"((void) y('a'), 8)", 1, 8, "a"},
	} {
		runs(t, sample{inMain(head, "return "+s.text+";"), s.stop, s.code, s.out})
	}
	runs(t,
		undefined(inMain(head, "int x; return x && 1;")),
		undefined(inMain(head, "int x; return 0 || x;")),
		exit(inMain(head, "int x; return 0 && x;"), 0),
		exit(inMain(head, "int x; return 1 || x;"), 1),
		exit(inMain(head, "int x; return 1 ? 2 : x;"), 2),
		undefined(inMain(head, "int x; return x ? 2 : 2;")),
		undefined(inMain(head, "int x; return !x;")),
		undefined(inMain(head, "int x; x, 1; return 1;")), // a value that is thrown away is read nevertheless
		undefined(inMain(head, "int x; (void) x; return 1;")),
		undefined(inMain(head, "int x; x; return 1;")),
		exit(inMain(head, "int x; &x; sizeof x; return 1;"), 1),
	)
}

// TestP12_3Order: parts are done from the left.
func TestP12_3Order(t *testing.T) {
	const head = "int x(int c) { putchar(c); return c - 'a'; } int a[30], *p = a; int *q(int c) { putchar(c); return a + 9; } struct S { int k, m; } s; struct S *r(int c) { putchar(c); return &s; } int three(int a, int b, int c) { putchar('!'); return 0; } "
	for text, out := range map[string]string{
		"x('b') + x('c') * x('d');":                    "bcd",
		"x('b') - x('c') - x('d');":                    "bcd",
		"x('b') < x('c');":                             "bc",
		"x('b') > x('c');":                             "cb", // layer 10 exchanges them
		"x('b') >= x('c');":                            "cb",
		"q('b') + x('c');":                             "bc",
		"x('c') + q('b');":                             "bc", // the pointer first
		"q('b') - x('c');":                             "bc",
		"q('b') - q('c');":                             "bc",
		"q('b') == q('c');":                            "bc",
		"q('b') > q('c');":                             "cb",
		"q('b')[x('c')];":                              "bc",
		"a[x('b')] = x('c');":                          "bc",
		"*q('b') = *q('c') = x('d');":                  "bcd",
		"a[x('b')] += x('c');":                         "bc",
		"r('b')->k = x('c');":                          "bc",
		"r('b')->k += r('c')->m;":                      "bc",
		"three(x('b'), x('c'), x('d'));":               "bcd!",
		"three(three(1, 2, 3), x('c'), x('d'));":       "!cd!",
		"x('b'), x('c'), x('d');":                      "bcd",
		"struct S l = { x('b'), x('c') };":             "bc",
		"struct S l = { .m = x('b'), .k = x('c') };":   "bc",
		"int l[3] = { x('b'), x('c'), [0] = x('d') };": "bcd",
		"(struct S) { x('b'), x('c') }.k + x('d');":    "bcd",
		"a[x('b')]++ + a[x('c')]--;":                   "bc",
		"putchar(x('b') + 'a');":                       "bb",
		"x('b') ? x('c') : x('d');":                    "bc",
	} {
		runs(t, puts(inMain(head, text+" return 0;"), out))
	}
	for text, code := range map[string]int{
		"int i = 1; return i + (i = 5) + i;":              11,
		"int i = 1; return (i = 5) * 10 + i++ + i * 100;": 655,
		"int i = 0; a[i] = i = 3; return a[0] * 10 + i;":  33,
		"int i = 0; a[i++] = i; return a[0] * 10 + i;":    11,
		"int i = 2; i = i++ + 1; return i;":               3,
		"int i = 2; i += i++; return i;":                  4, // what it had is asked first
		"int i = 2; i += i += 3; return i;":               7,
		"int i = 2; return (i += 3) * 10 + i;":            55,
		"int i = 2; return i++ * 100 + i-- * 10 + i;":     232,
		"int i = 2; return ++i * 100 + --i * 10 + i;":     322,
		"int i = 3; return three(i, i++, i) + i;":         4,
	} {
		runs(t, sample{inMain("int a[3]; int three(int a, int b, int c) { return 0; } ", text), api.StopExit, code, ""})
	}
}

// TestP12_3Updates: one within another has its own TxOld, and each its own again behind it.
func TestP12_3Updates(t *testing.T) {
	const head = "int a = 1, b = 2, c = 3, v[4], *p = v; char h = 127; unsigned char u = 255; short s = -32768; _Bool o; unsigned n; long l = 2147483647; int f(void) { return a++ + (b += 10); } struct S { int k : 4; unsigned m : 4; } r = { 7, 15 }; "
	for text, code := range map[string]int{
		"return a += b += c += 4;":                                                  10,
		"a += b += c; return a * 100 + b * 10 + c;":                                 653,
		"a += (b *= c) + (c -= b); return a * 100 + b * 10 + c;":                    4*100 + 60 - 3,
		"a = a++ + (b += a++) + a; return a;":                                       1 + 4 + 3,
		"a += f(); return a * 100 + b;":                                             14*100 + 12,
		"b += f(); return b * 100 + a;":                                             1500 + 2,
		"v[a++] += v[a++] += a++; return v[1] * 10 + v[2] + a * 100;":               433,
		"*p++ += a; *p += b++; return v[0] * 10 + v[1] + (p - v) * 100 + b * 1000;": 3112,
		"return h++ * 1000 + h;":                                                    127*1000 - 128,
		"return ++h;":                                                               -128,
		"return u++ * 10 + u;":                                                      2550,
		"return ++u;":                                                               0,
		"return s-- * 10 + s;":                                                      -327680 + 32767,
		"return o++ * 10 + o;":                                                      1,
		"o++; return o++ * 10 + o;":                                                 11,
		"return o-- * 10 + o;":                                                      1,
		"o = 1; return --o;":                                                        0,
		"return n-- == 0 && n == 4294967295u;":                                      1,
		"return ++l < 0;":                                                           1,
		"return (h += 2) * 10 + (u -= 256);":                                        -1270 + 255,
		"return r.k++ * 100 + r.m++ * 10 + r.k + r.m;":                              700 + 150 - 8,
		"return ++r.k * 10 + ++r.m;":                                                -80,
		"r.k += r.m += r.k += 1; return r.k * 10 + r.m; /* 7 + (15 + -8) */":        -13,
		"a <<= b |= 5; return a;":                                                   128,
		"a ^= b &= 3; b %= c; return a * 10 + b + (c >>= 1);":                       33,
		"return (a++, a++, a);":                                                     3,
		"int x = a++ ? b++ : c++; return x * 1000 + a * 100 + b * 10 + c;":          2233,
		"v[v[0]++]++; return v[0] * 10 + v[1];":                                     20,
		"(*(a++ ? &b : &c))++; return b * 10 + c;":                                  33,
	} {
		runs(t, exit(inMain(head, text), code))
	}
	runs(t,
		undefined(inMain("", "int x; x++; return 0;")),
		undefined(inMain("", "int x; x += 1; return 0;")),
		undefined(inMain("", "int *p = 0; p++; return 0;")),
		undefined(inMain("", "int x, *p; p = &x; p--; return 0;")),
		exit(inMain("", "int x, *p; p = &x; p++; p--; *p = 4; return x;"), 4),
		undefined(inMain("", "int x, *p = &x; ++*p; return 0;")),
	)
}

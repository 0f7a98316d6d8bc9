package lower

import (
	"testing"

	"mortise/api"
)

// TestP15_3Statements: each kind of statement, and the ways out of loops.
func TestP15_3Statements(t *testing.T) {
	const ahead = "int x; int p(int n) { putchar('0' + n); return n; } void v(int n) { if (n) { p(n); return; } p(9); } int first(int n) { for (;;) { while (1) { do { if (n) return n; n = 5; } while (1); } } } void nothing(void) { } "
	for text, out := range map[string]string{
		";;{} {;} p(1);":                                            "1",
		"if (p(1)) p(2); p(3);":                                     "123",
		"if (p(0)) p(2); p(3);":                                     "03",
		"if (p(0)) p(2); else p(3);":                                "03",
		"if (p(1)) p(2); else p(3);":                                "12",
		"if (p(0)) p(2); else if (p(1)) p(3); else p(4);":           "013",
		"if (1) if (0) p(1); else p(2); p(3);":                      "23",
		"if (1) { if (0) p(1); } else p(2); p(3);":                  "3",
		"if (p(1)) ; else p(2); if (p(0)) ; else ;":                 "10",
		"int i = 3; while (i) p(i--);":                              "321",
		"while (p(0)) p(1);":                                        "0",
		"int i = 0; while (1) { if (i == 2) break; p(i++); } p(9);": "019",
		"int i = 0; while (i < 5) { i++; if (i == 2) continue; if (i == 4) break; p(i); }":                                   "13",
		"int i = 0; do p(i); while (++i < 3);":                                                                               "012",
		"do p(1); while (0);":                                                                                                "1",
		"int i = 0; do { if (i == 1) continue; p(i); } while (i++ < 3); p(i);":                                               "0234",
		"int i = 0; do { if (i == 1) break; p(i); } while (++i < 3); p(i);":                                                  "01",
		"int i; for (i = 0; i < 3; i++) p(i); p(i);":                                                                         "0123",
		"for (int i = 0; i < 3; i++) p(i);":                                                                                  "012",
		"int i = 0; for (; i < 3; ) p(i++);":                                                                                 "012",
		"int i = 0; for (;;) { if (i > 2) break; p(i); i++; }":                                                               "012",
		"int i; for (i = 0; i < 6; i++) { if (i & 1) continue; p(i); if (i == 4) break; } p(i);":                             "0244",
		"int i; for (i = 0; ; i++) if (i == 3) break; else p(i);":                                                            "012",
		"for (p(1); p(0); p(3)) p(2);":                                                                                       "10",
		"int i = 0; for (p(1); i < 2; p(3)) p(i++);":                                                                         "10313",
		"int i, j; for (i = 0; i < 3; i++) for (j = 0; j < 3; j++) { if (j == i) break; if (i == 2 && !j) continue; p(j); }": "01",
		"int i, j; for (i = 0; i < 2; i++) { j = 0; while (1) { if (j++ == 1) break; do { if (j) break; p(8); } while (1); p(i); } p(7); }": "0717",
		"int i; for (i = 0; i < 3; i++) { int j = 0; do { if (i == 1) { continue; } p(j); } while (++j < 2); }":                             "0101",
		"v(0); v(2); nothing(); p(first(3)); p(first(0));":                                                                                  "9235",
		"{ int x = 1; { int x = 2; p(x); } p(x); } p(x);":                                                                                   "210",
		"for (int i = 0, j = 3; i < j; i++, j--) p(j - i);":                                                                                 "31",
		"int i = 2; for (struct { int n; } s = { 3 }; s.n; s.n--) p(s.n + i);":                                                              "543",
		"int *q; for (q = &x; q; q = 0) p(1); while (q) ; do ; while (q); if (q) p(2); if (!q) p(3);":                                       "13",
		"(void) p(1); p(2), p(3); 5; x; x + p(4); &x; p(5) ? p(6) : p(7); p(0) && p(1); p(0) || p(8);":                                      "123456008",
		"unsigned char c; for (c = 250; c > 3; c += 2) p(c - 250); p(c);":                                                                   "0240",
		"int n = 0; while (n < 10) { if (n < 3) { n++; continue; } else if (n == 5) { break; } n += 2; } p(n);":                             "5",
		"return p(4) * 0; p(5);":                   "4",
		"for (;;) { p(1); return 0; p(2); } p(3);": "1",
		"while (1) return 0; p(1);":                "",
	} {
		runs(t, puts(inMain(ahead, text+" return 0;"), out))
	}
}

// TestP15_3Exits: runs end by exit wherever it stands, and by main's end.
func TestP15_3Exits(t *testing.T) {
	const ahead = "int x; int p(int n) { putchar('0' + n); return n; } int f(int n) { p(1); if (n > 2) exit(n); f(n + 1); p(2); return 0; } struct S { int n; } g(int n) { struct S s = { n }; if (n) exit(n * 10); return s; } void v(int n) { exit(n); } "
	for text, want := range map[string]sample{
		"exit(3); p(1);":                         {code: 3},
		"exit(-1);":                              {code: -1},
		"exit(2147483647);":                      {code: 2147483647},
		"exit(-2147483647 - 1);":                 {code: -2147483648},
		"exit(4294967295u);":                     {code: -1},
		"f(0); p(9);":                            {code: 3, out: "1111"},
		"p(1) + (exit(5), p(2));":                {code: 5, out: "1"},
		"exit(p(4) + p(5));":                     {code: 9, out: "45"},
		"x = g(0).n + g(2).n;":                   {code: 20},
		"struct S s = g(3);":                     {code: 30},
		"p(1) ? exit(1) : exit(2);":              {code: 1, out: "1"},
		"for (;;) { if (p(x++) == 3) exit(x); }": {code: 4, out: "0123"},
		"while (1) v(6);":                        {code: 6},
		"int a[2] = { p(1), (v(2), 3) };":        {code: 2, out: "1"},
		"return 7;":                              {code: 7},
		"return -7;":                             {code: -7},
		"return 4294967290u;":                    {code: -6},
		"return p(2), p(3);":                     {code: 3, out: "23"},
		"return x ? 1 : 2;":                      {code: 2},
		"if (x) return 1;":                       {code: 0},
		"":                                       {code: 0},
		"p(1);":                                  {code: 0, out: "1"},
		"char c = 200; return c;":                {code: -56},
		"x++ < 3 ? main() : 0; return x * 10;":   {code: 40},
		"if (x++ < 3) return main() + 1; return 5;": {code: 8},
		"if (x++ < 3) main(); p(x); exit(x);":       {code: 4, out: "4"},
	} {
		want.text, want.stop = inMain("int main(void);"+ahead, text), api.StopExit
		runs(t, want)
	}
}

// TestP15_3Input: what is read of the input, byte by byte, to its end and behind it.
func TestP15_3Input(t *testing.T) {
	const copied = "int main(void) { int c, n = 0; while ((c = getchar()) != -1) { putchar(c); n++; } putchar(getchar() + 1); putchar(getchar() == -1); return n; }"
	for _, in := range []string{"", "a", "\x00\x01\xff\x80", "abc\ndef", "\xff\xff"} {
		runs(t, sample{text: copied, input: in, stop: api.StopExit, code: len(in), out: in + "\x00\x01"})
	}
	const ahead = "int two(int a, int b) { return a * 256 + b; } "
	runs(t,
		sample{text: inMain(ahead, "return two(getchar(), getchar());"), input: "ab", stop: api.StopExit, code: 97*256 + 98},
		sample{text: inMain(ahead, "char c = getchar(); unsigned char u = getchar(); getchar(); return c * 1000 + u;"), input: "\xfe\xfe", stop: api.StopExit, code: -2000 + 254},
		sample{text: inMain(ahead, "return 1 / (getchar() + 1);"), stop: api.StopZero},
		sample{text: inMain(ahead, "return 100 / (getchar() - 'a');"), input: "c", stop: api.StopExit, code: 50},
		sample{text: inMain(ahead, "return 100 / (getchar() - 'a');"), input: "a", stop: api.StopZero},
		sample{text: inMain(ahead, "int a[4] = { getchar(), [3] = getchar(), [1] = getchar() }; return a[0] * 100 + a[1] * 10 + a[3] - 'a' * 111;"), input: "bcd", stop: api.StopExit, code: 132},
	)
}

package model

import (
	"fmt"
	"strings"
	"testing"

	"mortise/api"
	"mortise/check"
)

// TestP12_3Statements: what each statement does, as C has it.
func TestP12_3Statements(t *testing.T) {
	const head = "int i, j, k, n; int *p = &n; void o(int c) { putchar(c); } "
	for text, out := range map[string]string{
		"; { } { ; } o('a');":                                                 "a",
		"o('a'); { o('b'); { o('c'); } o('d'); } o('e');":                     "abcde",
		"if (1) o('a');":                                                      "a",
		"if (0) o('a');":                                                      "",
		"if (1) o('a'); else o('b');":                                         "a",
		"if (0) o('a'); else o('b');":                                         "b",
		"if (0) o('a'); else if (1) o('b'); else o('c');":                     "b",
		"if (1) if (0) o('a'); else o('b');":                                  "b",
		"if (p) o('a'); if (!p) o('b'); p = 0; if (p) o('c');":                "a",
		"while (i < 3) o('a' + i++);":                                         "abc",
		"while (0) o('a');":                                                   "",
		"while (1) { if (i == 2) break; o('a' + i++); }":                      "ab",
		"while (i++ < 4) { if (i == 2) continue; o('a' + i); }":               "bde",
		"while (p) { o('a'); p = 0; }":                                        "a",
		"do o('a' + i++); while (i < 3);":                                     "abc",
		"do o('a'); while (0);":                                               "a",
		"do { if (i) break; o('a'); } while (++i);":                           "a",
		"do { if (i < 2) continue; o('a' + i); } while (i++ < 3);":            "cd",
		"do { o('a'); break; o('b'); } while (1);":                            "a",
		"for (i = 0; i < 3; i++) o('a' + i);":                                 "abc",
		"for (; i < 3; ) o('a' + i++);":                                       "abc",
		"for (; ; i++) { if (i > 2) break; o('a' + i); }":                     "abc",
		"for (i = 0; i < 4; i++) { if (i == 1) continue; o('a' + i); }":       "acd",
		"for (o('x'); i < 2; o('y')) o('a' + i++);":                           "xayby",
		"for (int i = 5; i < 7; i++) o('a' + i); o('a' + i);":                 "fga",
		"for (int i = 0, j = 3; i < j; i++, j--) { o('a' + i); o('a' + j); }": "adbc",
		"for (i = 0; i < 2; i++) for (j = 0; j < 2; j++) o('a' + i * 2 + j);": "abcd",
		"for (i = 0; i < 3; i++) { for (j = 0; j < 3; j++) { if (j == 1) break; o('a' + i); } o('x'); }":                        "axbxcx",
		"for (i = 0; i < 3; i++) { for (j = 0; j < 3; j++) { if (j == 1) continue; o('a' + j); } o('x'); }":                     "acxacxacx",
		"for (i = 0; i < 2; i++) { k = 0; while (1) { do { if (k++ > 1) break; o('d'); } while (1); o('w'); break; } o('f'); }": "ddwfddwf",
		"while (i < 2) { i++; for (;;) { if (i == 1) break; o('a'); break; } if (i == 1) continue; o('b'); }":                   "ab",
		"for (i = 0; i < 3; i++) { if (i == 1) { { { continue; } } } o('a' + i); }":                                             "ac",
		"for (i = 0; i < 3; i++) if (i == 1) break; else o('a' + i);":                                                           "a",
		"do { do { o('a'); } while (j++ < 1); if (i == 1) break; } while (i++ < 5);":                                            "aaa",
	} {
		runs(t, puts(inMain(head, text+" return 0;"), out))
	}
}

// TestP12_3Returns: a return leaves everything of its function, and of that alone.
func TestP12_3Returns(t *testing.T) {
	runs(t,
		exit("int main(void) { for (;;) while (1) do { { if (1) return 3; } } while (1); }", 3),
		exit("int f(int n) { for (int i = 0; ; i++) { for (int j = 0; j < 5; j++) { if (i * j == n) return i * 10 + j; } } } int main(void) { return f(6) * 100 + f(0); }", 2300),
		exit("int f(void) { while (1) return 4; } int main(void) { int i, n = 0; for (i = 0; i < 3; i++) n += f(); return n; }", 12),
		exit("int x; void f(int n) { while (1) { if (n) return; x = 5; n = 1; } } int main(void) { f(1); if (x) return 1; f(0); return x; }", 5),
		exit("int f(int n) { do { if (n > 3) return n; n++; } while (1); } int main(void) { return f(0); }", 4),
		sample{"void f(void) { putchar('a'); return; putchar('b'); } int main(void) { f(); f(); return 0; }", api.StopExit, 0, "aa"},
		exit("struct S { int a; } g(void) { for (;;) { struct S s = { 6 }; return s; } } int main(void) { return g().a; }", 6),
		exit("int main(void) { int n = 0; for (int i = 0; i < 3; i++) { int f = i; if (f) n += f; } return n; }", 3),
		exit("int f(void) { int x = 5; return x++ + x; } int main(void) { return f(); }", 11),
	)
}

// TestP12_3Asked: conditions are asked as Truth does.
func TestP12_3Asked(t *testing.T) {
	for _, text := range []string{"if (%) ;", "while (%) break;", "do ; while (%);", "for (; %; ) break;", "if (!%) ;"} {
		with := func(ahead, x string) string {
			return inMain("int *f(void) { int x; return &x; } struct { int b : 3; } s; ", ahead+strings.ReplaceAll(text, "%", x)+" return 5;")
		}
		runs(t,
			undefined(with("int x; ", "x")),
			undefined(with("int *x = f(); ", "x")),
			exit(with("int *x = 0; ", "x"), 5),
			exit(with("int x = 0; ", "x"), 5),
			exit(with("", "s.b"), 5),
		)
	}
	runs(t,
		exit("int a[2]; int main(void) { if (a + 2) return 1; return 2; }", 1),
		exit("int main(void) { if (-1) return 1; return 2; }", 1),
		exit("int main(void) { char c = 256; if (c) return 1; return 2; }", 2),
		exit("int main(void) { if (0x80000000) return 1; return 2; }", 1),
		exit("int main(void) { while (\"\") return 1; return 2; }", 1),
	)
}

// TestP12_3Deepest: texts may be as deep as layer 6 takes them, in as many calls as may be.
func TestP12_3Deepest(t *testing.T) {
	for nest, calls := range map[string]int{"(c += %)": 62, "(s.w <<= %)": 62, "(p -= %)[0]": 62, "id((struct S) { .w = % }).w": 18, "- %": 62, "g(%)": 62} {
		text, deep := "", 0
		for n := 250; text == ""; n-- {
			deep = n
			x := "f(n - 1)"
			for range n {
				x = strings.Replace(nest, "%", x, 1)
			}
			x = inMain("struct S { long w : 9; } s; char c; int a[2], *p = a; int g(char c) { return c; } struct S id(struct S s) { return s; } int f(int n) { return n ? "+x+" : 0; }", fmt.Sprintf("return f(%d);", calls))
			if _, f := check.Text(x); f.Code == api.OK {
				text = x
			}
		}
		o := ran(t, text, "", api.MaxFuel)
		if o.Stop != api.StopExit || o.Code != 0 || deep < 40 {
			t.Errorf("%s, %d times: %v", nest, deep, o)
		}
	}
}

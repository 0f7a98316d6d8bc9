package model

import (
	"fmt"
	"testing"

	"mortise/api"
)

// TestP12_3Records: structs and unions are values: read, set, handed over, returned, chosen.
func TestP12_3Records(t *testing.T) {
	const head = "struct S { char c; int n; short h[2]; } s = { 1, 2, { 3, 4 } }, t, a[3], *p = a; union U { int n; char z[7]; } u, v; int x; " +
		"int sum(struct S s) { return s.c * 1000 + s.n * 100 + s.h[0] * 10 + s.h[1]; } struct S up(struct S s) { s.n++; return s; } struct S *at(int i) { return a + i; } union U gu(int n) { union U u = { n }; return u; } "
	for text, code := range map[string]int{
		"t = s; return sum(t);":                                                     1234,
		"t = s; t.n = 9; return sum(s) + t.n;":                                      1243,
		"return sum(s);":                                                            1234,
		"return sum(up(s)) + sum(s);":                                               1334 + 1234,
		"return sum(up(up(up(s))));":                                                1534,
		"return up(s).n * 10 + up(up(s)).n;":                                        34,
		"return up(s).h[1];":                                                        4,
		"a[2] = a[1] = s; return sum(a[2]) - sum(a[1]) + sum(a[0]);":                0,
		"return sum(t = s);":                                                        1234,
		"return (t = s).n * 10 + t.h[1];":                                           24,
		"return sum(x ? t : s);":                                                    1234,
		"return sum((x, s));":                                                       1234,
		"*p = s; p[1] = *p; p[1].c = 7; return sum(*(p + 1)) - sum(a[0]);":          6000,
		"*at(1) = up(s); return sum(*at(1));":                                       1334,
		"struct S l = s, k = up(l); return sum(k) - sum(l);":                        100,
		"struct { struct S s; int k; } o = { s, 5 }; return sum(o.s) + o.k;":        1239,
		"struct S l[2] = { s, { 9 } }; return sum(l[0]) + sum(l[1]);":               10234,
		"t = (struct S) { .h = { 7 } }; return sum(t);":                             70,
		"s = s; return sum(s);":                                                     1234,
		"u.n = 0x01020304; v = u; return v.z[0] * 10 + v.z[3];":                     41,
		"return gu(300).z[0] * 10 + gu(300).z[1];":                                  441,
		"v = gu(7); return v.n;":                                                    7,
		"struct E { char c[3]; } e = { \"ab\" }, f; f = e; return f.c[0] + f.c[1];": 97 + 98,
		"s.c = -1; t = s; return t.c;":                                              -1,
	} {
		runs(t, exit(inMain(head, text), code))
	}
}

// TestP12_3RecordsUnset: bytes that are not set are handed on as they are.
func TestP12_3RecordsUnset(t *testing.T) {
	const head = "struct S { char c; int n; int *p; }; struct S id(struct S s) { return s; } int one(struct S s) { return s.c; } union U { char c; int n; }; "
	runs(t,
		exit(inMain(head, "struct S s, t; t = s; return 3;"), 3),
		undefined(inMain(head, "struct S s, t; t = s; return t.n;")),
		exit(inMain(head, "struct S s, t; s.n = 5; t = s; return t.n;"), 5),
		undefined(inMain(head, "struct S s, t; s.n = 5; t = s; return t.c;")),
		undefined(inMain(head, "struct S s, t = { 1, 2 }; t = s; return t.n;")), // what was set is so no more
		exit(inMain(head, "struct S s; s.c = 4; return one(s);"), 4),
		undefined(inMain(head, "struct S s; s.n = 4; return one(s);")),
		exit(inMain(head, "struct S s; s.c = 4; return id(id(s)).c;"), 4),
		undefined(inMain(head, "struct S s; s.c = 4; return id(id(s)).n;")),
		exit(inMain(head, "struct S s; s; (void) s; id(s); return 6;"), 6),
		exit(inMain(head, "struct S s, t; s.p = &s.n; t = id(s); *t.p = 8; return s.n;"), 8),
		undefined(inMain(head, "struct S s, t; s.p = &s.n; t = s; ((char *) &t)[9] = 0; t.p; return 0;")),
		exit(inMain(head, "union U u, v; u.c = 3; v = u; return v.c;"), 3),
		undefined(inMain(head, "union U u, v; u.c = 3; v = u; return v.n;")),
		exit(inMain(head, "union U u, v; u.c = 3; v = u; ((char *) &v)[1] = 0; ((char *) &v)[2] = 1; ((char *) &v)[3] = 0; return v.n;"), 65539),
		undefined(inMain(head, "struct S s; s.c = 1; s.n = 2; s.p = 0; struct S t = s; return ((char *) &t)[2];")), // padding, too
		exit(inMain(head, "struct S s = { 1 }; struct S t; t = s; return ((char *) &t)[2];"), 0),
		exit(inMain(head, "struct S s; ((char *) &s)[2] = 9; struct S t; t = s; return ((char *) &t)[2];"), 9),
	)
}

// TestP12_3RecordsParts: each byte of a pointer is carried over, also where others stand among them.
func TestP12_3RecordsParts(t *testing.T) {
	const head = "int x = 5, y = 6; union U { int *p[2]; char z[8]; struct { char b[8]; } s; } u, v; "
	runs(t,
		exit(inMain(head, "u.p[0] = &x; u.p[1] = &y; v = u; return *v.p[0] * 10 + *v.p[1];"), 56),
		exit(inMain(head, "u.p[0] = &x; u.p[1] = &y; v.s = u.s; return *v.p[0] * 10 + *v.p[1];"), 56),
		exit(inMain(head, "u.p[0] = &x; u.z[5] = 9; v = u; return *v.p[0] * 10 + v.z[5];"), 59),
		undefined(inMain(head, "u.p[0] = &x; u.p[1] = &y; u.z[5] = 9; v = u; v.p[1]; return 0;")),
		undefined(inMain(head, "u.p[0] = &x; u.p[1] = &y; v = u; return v.z[4];")),
		// single bytes, as structs of one, in order and out of it
		exit(inMain("struct B { char c; }; int x = 5; int *p = &x, *q; ", "int i; for (i = 0; i < 4; i++) ((struct B *) &q)[i] = ((struct B *) &p)[i]; return *q;"), 5),
		undefined(inMain("struct B { char c; }; int x = 5; int *p = &x, *q; ", "int i; for (i = 0; i < 4; i++) ((struct B *) &q)[i] = ((struct B *) &p)[3 - i]; q; return 0;")),
		undefined(inMain("struct B { char c; }; int x, y, *p = &x, *r = &y, *q; ", "int i; for (i = 0; i < 4; i++) ((struct B *) &q)[i] = ((struct B *) (i < 2 ? &p : &r))[i]; q; return 0;")),
		exit(inMain("struct B { char c; }; int x = 5; int *p = &x, *q; struct B id(struct B b) { return b; } ", "int i; for (i = 3; i >= 0; i--) ((struct B *) &q)[i] = id(((struct B *) &p)[i]); return *q;"), 5),
	)
}

// TestP12_3RecordsPlaces: there must be as many bytes at the place, by the type's alignment.
func TestP12_3RecordsPlaces(t *testing.T) {
	const head = "struct S { short a, b, c; } s, v[3]; struct B { char c[6]; } b; short h[4]; char raw[16]; int n[4]; struct W { int x; char c; } w; "
	for place, ok := range map[string]bool{
		"h": true, "&h[1]": true, "&h[2]": false, "raw": false, "(char *) h + 1": false, "(char *) n + 2": true, "(char *) n + 1": false, "(char *) n + 10": true, "(char *) n + 12": false,
		"v + 2": true, "v + 3": false, "&b": false, "&w": true, "(char *) &w + 2": true, "(char *) &w + 4": false, "0": false, "&v[1].b": true, "&v[2].b": false,
	} {
		for _, text := range []string{"s = *(struct S *) (%s); return 1;", "*(struct S *) (%s) = s; return 1;"} {
			text = inMain(head, fmt.Sprintf(text, place))
			if ok {
				runs(t, exit(text, 1))
			} else {
				runs(t, undefined(text))
			}
		}
	}
	runs(t,
		exit(inMain(head, "raw[3] = 7; b = *(struct B *) (raw + 1); return b.c[2];"), 7), // what has the alignment 1 may be anywhere
		exit(inMain(head, "b.c[2] = 7; *(struct B *) (raw + 10) = b; return raw[12];"), 7),
		undefined(inMain(head, "b = *(struct B *) (raw + 11); return 0;")),
		undefined(inMain(head, "w = *(struct W *) h; return 0;")),
		undefined("struct S { int a; } *f(void) { struct S s = { 1 }; return &s; } int main(void) { *f(); return 0; }"),
		undefined("struct S { int a; } s; struct S *f(void) { struct S s = { 1 }; return &s; } int main(void) { *f() = s; return 0; }"),
	)
}

// TestP12_3RecordsOverlap: the value is read ahead of what is put, wherever both lie.
func TestP12_3RecordsOverlap(t *testing.T) {
	const head = "struct S { short a, b, c; }; short h[8] = { 1, 2, 3, 4, 5, 6, 7, 8 }; int all(void) { int i, n = 0; for (i = 0; i < 8; i++) n = n * 10 + h[i]; return n; } "
	for i, want := range map[[2]int]int{{0, 0}: 12345678, {1, 0}: 11235678, {2, 0}: 12123678, {3, 0}: 12312378, {0, 1}: 23445678, {0, 2}: 34545678, {5, 4}: 12345567, {4, 5}: 12346788} {
		runs(t, exit(inMain(head, fmt.Sprintf("*(struct S *) &h[%d] = *(struct S *) &h[%d]; return all();", i[0], i[1])), want))
	}
	runs(t, exit("union { struct { char c[5]; } a; struct { char k; struct { char c[5]; } in; } b; } u = { { \"abcd\" } }; int main(void) { struct T { char c[5]; }; *(struct T *) &u.b.in = *(struct T *) &u; return u.b.in.c[3] * 1000 + u.b.k; }", 'd'*1000+'a'))
}

// TestP12_3RecordsOrder: the place first, then the value, then what is put.
func TestP12_3RecordsOrder(t *testing.T) {
	const head = "struct S { int a, b; } s[2]; struct S *at(int i) { putchar('0' + i); return s + i; } struct S of(int i) { putchar('a' + i); return s[i]; } int three(struct S a, int n, struct S b) { putchar('t'); return n; } "
	runs(t,
		puts(inMain(head, "*at(1) = of(0); return 0;"), "1a"),
		puts(inMain(head, "*at(0) = *at(1) = of(1); return 0;"), "01b"),
		puts(inMain(head, "three(of(0), putchar('n'), of(1)); return 0;"), "anbt"),
		puts(inMain(head, "struct S x[2] = { of(1), of(0) }; return 0;"), "ba"),
		puts(inMain(head, "struct S x[2] = { [1] = of(1), [0] = of(0) }; return 0;"), "ba"),
		sample{inMain(head, "s[0] = *at(5); return 0;"), api.StopUndef, 0, "5"},
	)
}

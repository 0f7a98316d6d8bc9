package lower

import (
	"fmt"
	"math/rand"
	"strings"
	"testing"

	"mortise/api"
)

// TestP15_3Records: structs and unions are set, handed over, returned, returned and thrown away, chosen, and asked for a part.
func TestP15_3Records(t *testing.T) {
	const ahead = "struct S { char c; int n; short h[2]; } s = { 1, 2, { 3, 4 } }, t, a[3], *p = a; union U { int n; char z[7]; } u, v; int x; " +
		"int sum(struct S s) { return s.c * 1000 + s.n * 100 + s.h[0] * 10 + s.h[1]; } struct S up(struct S s) { s.n++; return s; } struct S *at(int i) { return a + i; } union U gu(int n) { union U u = { n }; return u; } " +
		"struct S deep(struct S s, int n) { return n ? deep(up(s), n - 1) : s; } int both(struct S a, int k, struct S b) { return sum(a) * k - sum(b); } struct S none(int n) { if (n) return s; } void turn(struct S s) { s.n = 77; } "
	bodies(t, ahead, map[string]int{
		"t = s; return sum(t);":                                                     1234,
		"t = s; t.n = 9; return sum(s) + t.n;":                                      1243,
		"return sum(up(s)) + sum(s);":                                               1334 + 1234,
		"return sum(up(up(up(s))));":                                                1534,
		"return up(s).n * 10 + up(up(s)).n;":                                        34,
		"return up(s).h[1];":                                                        4,
		"a[2] = a[1] = s; return sum(a[2]) - sum(a[1]) + sum(a[0]);":                0,
		"return sum(t = s);":                                                        1234,
		"return (t = s).n * 10 + t.h[1];":                                           24,
		"return sum(x ? t : s);":                                                    1234,
		"return sum(x ? s : (x = 1, up(s))) + sum(x ? s : t);":                      1334 + 1234,
		"return sum((x, s));":                                                       1234,
		"*p = s; p[1] = *p; p[1].c = 7; return sum(*(p + 1)) - sum(a[0]);":          6000,
		"*at(1) = up(s); return sum(*at(1));":                                       1334,
		"struct S l = s, k = up(l); return sum(k) - sum(l);":                        100,
		"struct { struct S s; int k; } o = { s, 5 }; return sum(o.s) + o.k;":        1239,
		"struct S l[2] = { s, { 9 } }; return sum(l[0]) + sum(l[1]);":               10234,
		"t = (struct S) { .h = { 7 } }; return sum(t);":                             70,
		"s = s; return sum(s);":                                                     1234,
		"*&s = s; p = &s; *p = s; s = *p; *p = *p; return sum(s);":                  1234,
		"u.n = 0x01020304; v = u; return v.z[0] * 10 + v.z[3];":                     41,
		"return gu(300).z[0] * 10 + gu(300).z[1];":                                  441,
		"v = gu(7); return v.n;":                                                    7,
		"struct E { char c[3]; } e = { \"ab\" }, f; f = e; return f.c[0] + f.c[1];": 97 + 98,
		"s.c = -1; t = s; return t.c;":                                              -1,
		"return sum(deep(s, 7));":                                                   1934,
		"return both(s, 2, up(s));":                                                 1134,
		"return both(up(s), 2, s) + both(up(s), 1, up(up(s)));":                     1334,
		"return both(s, s.n++, s);":                                                 1134,
		"return both(s, (s.n = 5, 1), s);":                                          -300,
		"up(s); none(0); none(1); deep(s, 3); (void) up(s); up(s), 1; s; *p; turn(s); x ? up(s) : none(0); return sum(s);": 1234,
		"none(0), x = 3; return x;":                                                                                           3,
		"struct S l = { 5 }; l = none(1); return sum(l);":                                                                     1234,
		"struct S l = up((struct S) { 1, 1, { 1, 1 } }); return sum(l);":                                                      1211,
		"struct S *q = &(struct S) { 2, 3 }; *q = up(*q); return sum(*q);":                                                    2400,
		"a[x++] = a[x++] = s; return x * 10000 + sum(a[0]) + sum(a[1]);":                                                      20000 + 2468,
		"int i; for (i = 0; i < 3; i++) { struct S l = s; l.n = i; a[i] = up(l); } return sum(a[0]) + sum(a[1]) + sum(a[2]);": 3702,
		"p = a; *p++ = s; *p++ = up(s); return (p - a) * 10000 + sum(a[0]) + sum(p[-1]);":                                     20000 + 1234 + 1334,
	})
}

// TestP15_3RecordsUnset: bytes of records that nobody set, and parts of pointers, are carried over.
func TestP15_3RecordsUnset(t *testing.T) {
	const ahead = "struct S { char c; int n; int *p; }; struct S id(struct S s) { return s; } int one(struct S s) { return s.c; } union U { int *p[2]; char z[8]; struct { char b[8]; } s; } u, v; int x = 5, y = 6; struct B { char c; }; union W { char c; int n; }; "
	bodies(t, ahead, map[string]int{
		"struct S s, t; t = s; return 3;":                                                                         3,
		"struct S s, t; s.n = 5; t = s; return t.n;":                                                              5,
		"struct S s; s.c = 4; return one(s);":                                                                     4,
		"struct S s; s.c = 4; return id(id(s)).c;":                                                                4,
		"struct S s; s; (void) s; id(s); return 6;":                                                               6,
		"struct S s, t; s.p = &s.n; t = id(s); *t.p = 8; return s.n;":                                             8,
		"union W u, v; u.c = 3; v = u; return v.c;":                                                               3,
		"struct S s; ((char *) &s)[2] = 9; struct S t; t = s; return ((char *) &t)[2];":                           9,
		"u.p[0] = &x; u.p[1] = &y; v = u; return *v.p[0] * 10 + *v.p[1];":                                         56,
		"u.p[0] = &x; u.p[1] = &y; v.s = u.s; return *v.p[0] * 10 + *v.p[1];":                                     56,
		"u.p[0] = &x; u.z[5] = 9; v = u; return *v.p[0] * 10 + v.z[5];":                                           59,
		"int *p = &x, *q; int i; for (i = 0; i < 4; i++) ((struct B *) &q)[i] = ((struct B *) &p)[i]; return *q;": 5,
	})
}

// TestP15_3Across: a record may be set to one that lies across it, as it was ahead of that.
func TestP15_3Across(t *testing.T) {
	for _, by := range []int{1, 2, 3, 4, 5, 7, 8} {
		for _, size := range []int{1, 2, 3, 4, 5, 8, 11} {
			types := fmt.Sprintf("struct R { char c[%d]; }; union V { struct R x; struct { char pad[%d]; struct R x; } y; char all[%d]; }; struct R same(struct R r) { return r; } ", size, by, size+by)
			for _, set := range []string{"v.x = v.y.x", "v.y.x = v.x", "*p = *q", "*q = *p", "v.x = *q", "*q = v.x", "*p = v.y.x", "v.y.x = *p", "*p = *q = *p", "*q = *p = *q", "*p = same(*q)", "*q = same(*p)", "*q = n ? *p : v.y.x", "*p = (n++, *q)", "*q = (v.x = v.y.x)", "v.y.x = (struct R) { 1 }", "*p = *(q + n - 1)", "w->y.x = w->x", "w->x = w->y.x", "(*w).y.x = v.x"} {
				text := inMain(showing+types, "union V v, *w = &v; struct R *p = &v.x, *q = &v.y.x; int i, n = 1; for (i = 0; i < sizeof v; i++) v.all[i] = i * 7 + 1; "+set+"; dump(&v, sizeof v); return 0;")
				shows(t, text, "", size+by)
			}
		}
	}
	const apart = "struct R { short a, b; }; union V { struct R r[3]; struct { short pad; struct R r[2]; } m; } v = { { { 1, 2 }, { 3, 4 }, { 5, 6 } } }, *w = &v; "
	for _, set := range []string{"v.m.r[0] = v.r[0]", "v.m.r[1] = v.r[1]", "v.r[1] = v.m.r[0]", "w->r[2] = w->m.r[1]", "w->m.r[0] = w->r[1]", "v.m.r[0] = w->r[0]", "v.r[0] = v.r[2]", "v.r[0] = v.r[0]"} {
		shows(t, inMain(showing+apart, set+"; dump(&v, sizeof v); return 0;"), "", 12)
	}
}

// recorder grows texts about records of grown types.
type recorder struct {
	*grower
	types int
}

// member grows a member of a record, whose name is told, by types that stand ahead of it.
func (g *recorder) member(name string) string {
	switch g.Intn(8) {
	case 0, 1:
		return fmt.Sprintf("%s %s; ", g.pick("char", "unsigned char", "short", "int", "_Bool", "unsigned short", "long"), name)
	case 2:
		return fmt.Sprintf("%s %s[%d]; ", g.pick("char", "short", "int"), name, 1+g.Intn(5))
	case 3, 4, 5:
		kind := g.pick("char", "unsigned char", "short", "int", "unsigned", "long", "unsigned short")
		return fmt.Sprintf("%s %s : %d; ", kind, name, 1+g.Intn(widthOf(kind)))
	case 6:
		if g.types > 0 {
			return fmt.Sprintf("struct R%d %s; ", g.Intn(g.types), name)
		}
	}
	return fmt.Sprintf("char %s[%d]; ", name, 1+g.Intn(3))
}

// record grows a type, what there is of it, and functions of it. Each has a member m that is a number.
func (g *recorder) record() string {
	n := g.types
	kind := g.pick("char", "short", "int", "unsigned char")
	m := g.pick(kind+" m; ", fmt.Sprintf("%s m : %d; ", kind, 1+g.Intn(widthOf(kind))), "char m; ")
	text := fmt.Sprintf("struct R%d { ", n)
	for i := range g.Intn(4) {
		text += g.member(fmt.Sprint("a", i))
	}
	text += m
	for i := range g.Intn(3) {
		text += g.member(fmt.Sprint("b", i))
	}
	g.types++
	return strings.ReplaceAll(text+"}; struct R# g# = { 1 }, h#[3] = { [1] = { 2 } }, *p# = h# + 1; union V# { struct R# r[2]; unsigned char z[9]; struct T t[2]; struct { char pad; struct T t; } s; } v#, *w# = &v#; "+
		"struct R# k# (struct R# a, int n) { a.m = a.m + n; return a; } struct R# c#(struct R# a, int n, struct R# b) { if (n & 1) return a; b.m = n; return n & 2 ? b : k#(a, n >> 2); } "+
		"int s#(struct R# a, struct R# b) { a.m -= b.m; return a.m; } void t#(struct R# *a, struct R# b) { b.m++; *a = b; a->m--; } ", "#", fmt.Sprint(n))
}

// place grows a place of a record, of the type number n.
func (g *recorder) place(n int) string {
	return strings.ReplaceAll(g.pick("g#", "h#[i & 1]", "h#[2]", "(*p#)", "p#[-1]", "p#[i & 1]", "l#", "e#[1]", "v#.r[0]", "w#->r[i & 1]", "(*(h# + (i++ & 1)))", "o#.r", "(*q#)"), "#", fmt.Sprint(n))
}

// value grows a record's value.
func (g *recorder) value(n, deep int) string {
	if deep <= 0 {
		return g.place(n)
	}
	a, b, k := g.value(n, deep-1), g.value(n, deep-1), g.amount(deep-1)
	return strings.ReplaceAll("("+g.pick(g.place(n), "k#("+a+", "+k+")", "c#("+a+", "+k+", "+b+")", g.place(n)+" = "+a, k+" ? "+a+" : "+b, k+", "+a, "(struct R#) { "+k+" }", "(struct R#) { .m = "+k+", .m = i }")+")", "#", fmt.Sprint(n))
}

// amount grows a number.
func (g *recorder) amount(deep int) string {
	n := g.Intn(g.types)
	if deep <= 0 {
		return g.pick("i", "1", "2", "3", "0", g.place(n)+".m")
	}
	return strings.ReplaceAll(g.pick("i++", "s#("+g.value(n, deep-1)+", "+g.value(n, deep-1)+")", g.value(n, deep-1)+".m", "("+g.place(n)+".m = "+g.amount(deep-1)+")", g.place(n)+".m++", "("+g.place(n)+".m += "+g.amount(deep-1)+")", "v#.z[i & 1]", "(v#.z[0]++, "+g.amount(deep-1)+")"), "#", fmt.Sprint(n))
}

// unit grows a text that does much with records, and shows them all behind each statement.
func (g *recorder) unit() string {
	g.types = 0
	ahead, locals, shown := showing+"struct T { char c[3]; }; ", "int i = 1, j; ", ""
	for n := range 1 + g.Intn(2) {
		ahead += g.record()
		locals += strings.ReplaceAll("struct R# l# = { 4 }, e#[2] = { { 5 }, { 6 } }, *q# = &l#; struct { char c; struct R# r; } o# = { 7, { 8 } }; ", "#", fmt.Sprint(n))
		shown += strings.ReplaceAll("dump(&g#, sizeof g#); dump(h#, sizeof h#); dump(&l#, sizeof l#); dump(e#, sizeof e#); dump(&v#, sizeof v#); dump(&o#, sizeof o#); ", "#", fmt.Sprint(n))
	}
	body := ""
	for range 6 {
		n := g.Intn(g.types)
		body += strings.ReplaceAll(g.pick(g.place(n)+" = "+g.value(n, 2), g.place(n)+" = "+g.value(n, 3), "t#(&"+g.place(n)+", "+g.value(n, 2)+")", g.value(n, 2), "out("+g.amount(3)+")", "{ struct R# y = "+g.value(n, 2)+"; "+g.place(n)+" = y; }", "v#.r[1] = *(struct R# *) &v#", "v#.s.t = v#.t[i & 1]", "v#.t[0] = w#->s.t"), "#", fmt.Sprint(n)) + "; " + shown
	}
	return inMain(ahead, locals+"for (j = 0; j < 2; j++) { "+body+"} return i;")
}

// TestP15_3GrownRecords: records of grown types, with bit-fields and padding, of all sizes and alignments.
func TestP15_3GrownRecords(t *testing.T) {
	g := &recorder{grower: &grower{Rand: rand.New(rand.NewSource(153))}}
	exited := 0
	for range 250 {
		if o := agrees(t, g.unit(), "", enough); o.Stop == api.StopExit {
			exited++
		}
	}
	if exited < 200 {
		t.Errorf("only %d exit", exited)
	}
}

// TestP15_3LargeRecords: records as large as they may be are handed over and returned, also several of them at one time.
func TestP15_3LargeRecords(t *testing.T) {
	const ahead = "struct L { char c[16384]; } g, h; struct H { short c[6001]; } k; struct L up(struct L l) { l.c[16383]++; return l; } int f(struct L a, struct L b, int n) { return a.c[16383] * 100 + b.c[16383] * 10 + n; } struct H hu(struct H h, int n) { h.c[6000] += n; return h; } int three(struct H a, struct H b, struct H c) { return a.c[6000] * 100 + b.c[6000] * 10 + c.c[6000]; } int two(struct H a, struct L l, struct H b) { return a.c[6000] * 100 + b.c[6000] * 10 + l.c[16383]; } "
	bodies(t, ahead, map[string]int{
		"g = up(up(g)); return g.c[16383];":                                 2,
		"return f(up(g), up(up(g)), 3);":                                    123,
		"return f(up(g), f(g, g, 1) ? up(up(up(g))) : g, f(up(g), g, 0));":  100 + 30 + 100,
		"h = g = up(h); return f(g, h, 0);":                                 110,
		"struct L *p = &g, *q = &h; *p = *q = up(*p); return f(*p, *q, 1);": 111,
		"struct L l = up(g), m[1] = { up(l) }; return f(l, m[0], 0);":       120,
		"return three(hu(k, 1), hu(k, 2), hu(k, 3));":                       123,
		"return two(hu(k, 1), up(g), hu(k, 3));":                            131,
		"return three(hu(k, 1), three(k, hu(k, 4), k) ? hu(k, 2) : k, three(hu(k, 1), k, k) ? hu(k, 3) : k) + two(k, g, hu(k, 5));":   173,
		"struct H l = hu(k, 7); return three(hu(k, 1), l = hu(l, 1), hu(l, 1)) - three(k, k, hu(l, 1));":                              180,
		"up(g), up(g); k = hu(hu(k, 3), 4); return hu(k, 1).c[6000] * 10 + k.c[6000];":                                                87,
		"return f(up(g), up(g), 0) + f(up(g), up(g), 0) + f(up(g), up(g), 0) + hu(k, 2).c[6000] + hu(k, 3).c[6000] + f(g, up(g), 1);": 330 + 5 + 11,
	})
}

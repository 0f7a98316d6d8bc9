package lower

import (
	"fmt"
	"strings"
	"testing"
)

// widthOf is how many bits a bit-field of a type may have.
func widthOf(kind string) int {
	switch kind {
	case "_Bool":
		return 1
	case "char", "signed char", "unsigned char":
		return 8
	case "short", "unsigned short":
		return 16
	}
	return 32
}

// fieldStruct is a struct with a field f of so many bits of a type, behind a byte and so many bits, and with others behind it.
func fieldStruct(kind string, ahead, bits int) string {
	text := "struct { unsigned char first; "
	if ahead > 0 {
		text += fmt.Sprintf("%s : 0; %s p : %d; ", kind, kind, ahead)
	}
	text += fmt.Sprintf("%s f : %d; ", kind, bits)
	if rest := widthOf(kind) - ahead - bits; rest > 0 {
		text += fmt.Sprintf("%s r : %d; ", kind, rest)
	}
	return text + "unsigned char last; }"
}

// fieldUses reads, sets and turns a field of x, whose bytes are shown each time.
func fieldUses(x string) string {
	var l []string
	for _, use := range []string{"%s.f", "%s.f = n", "%s.f += n", "%s.f -= 3", "%s.f *= n", "%s.f |= 5", "%s.f ^= n", "%s.f <<= 1", "%s.f >>= 1", "%s.f++", "++%s.f", "%s.f--", "--%s.f", "-%s.f", "!%s.f", "%s.f ? n : 4", "(char) %s.f", "%s.f < n", "%s.f = %[1]s.f"} {
		use := fmt.Sprintf(use, x)
		l = append(l, "out("+use+"); ", use+"; dump(&"+x+", sizeof "+x+"); ")
	}
	return strings.Join(l, "")
}

// TestP15_3Fields: bit-fields of each width and type, at many places of their units, with others beside them.
func TestP15_3Fields(t *testing.T) {
	for _, kind := range kinds() {
		for bits := 1; bits <= widthOf(kind); bits++ {
			var globals, body strings.Builder
			seen := map[int]bool{}
			for _, ahead := range []int{0, 1, 7, 8, 9, 18, widthOf(kind) - bits} {
				if seen[ahead] || ahead+bits > widthOf(kind) {
					continue
				}
				seen[ahead] = true
				fmt.Fprintf(&globals, "%s x%d; ", fieldStruct(kind, ahead, bits), ahead)
				fmt.Fprintf(&body, "for (i = 1; i < 16; i += 4) { n = a[i]; char *c = (char *) &x%d; for (j = 0; j < sizeof x%d; j++) c[j] = n * j + i; %s} ", ahead, ahead, fieldUses(fmt.Sprint("x", ahead)))
			}
			shows(t, inMain(showing+"int a[16] = "+numbers+"; "+globals.String(), "int i, j, n; "+body.String()+"return 0;"), "", 300)
		}
	}
}

// TestP15_3FieldPlaces: bit-fields of what lies anywhere.
func TestP15_3FieldPlaces(t *testing.T) {
	const ahead = "struct B { int a : 3; unsigned b : 7; int c : 12; int d : 10; } g, *p = &g, l[3], *q = l + 1; struct O { char c; struct B b[2]; union U { struct B b; unsigned n; unsigned char z[4]; short s : 11; } u; } o, *r = &o; " +
		"struct B f(struct B b) { b.c++; return b; } int k; int side(void) { putchar('0' + k); return k++; } "
	bodies(t, ahead, map[string]int{
		"g.a = 5; g.b = 200; return g.a * 1000 + g.b;":                                                  -3000 + 72,
		"p->c = -5; p->d = 300; return p->c * 1000 + g.d;":                                              -5000 + 300,
		"l[2].b = 99; l[1].c = 7; return l[2].b * 10 + q->c;":                                           997,
		"q[1].d = -512; q[-1].a = 1; return l[2].d + l[0].a;":                                           -511,
		"o.b[1].c = 2047; r->b[1].c++; return o.b[1].c;":                                                -2048,
		"r->u.n = 0xffffffff; r->u.b.b = 0; return o.u.b.a * 100 + o.u.b.b * 10 + r->u.b.c;":            -101,
		"o.u.n = 0x12345678; return o.u.s;":                                                             0x678 - 0x800,
		"o.u.s = -1; return o.u.z[0] * 1000 + o.u.z[1];":                                                255007,
		"(*p).a = 3; (&g)->a++; return g.a;":                                                            -4,
		"struct B x = { 1, 2, 3, 4 }, y; y = x; y.b--; return x.b * 1000 + y.a * 100 + y.b * 10 + y.c;": 2113,
		"g = (struct B) { .c = 9 }; return f(g).c * 10 + g.c;":                                          109,
		"return (struct B) { 1, 2, 3, 4 }.d;":                                                           4,
		"struct B x[2] = { [1] = { .d = -3 } }; return x[1].d + x[0].d;":                                -3,
		"return (g.a = 9) * 100 + (g.b = 130) * 10 + (g.a += 2);":                                       100 + 20 + 3,
		"return (g.a = g.b = 77) * 1000 + g.b;":                                                         -3*1000 + 77,
		"g.a = 3; return g.a++ * 10 + g.a;":                                                             30 - 4,
		"g.a = -4; return g.a-- * 10 + g.a;":                                                            -40 + 3,
		"g.a = 3; return ++g.a * 10 + g.a;":                                                             -44,
		"g.c = g.b = g.a = 13; return g.c * 100 + g.b;":                                                 12625,
		"unsigned n = 0xfffffffe; g.d = n; return g.d + g.d / 2;":                                       -3,
		"g.b = 127; return g.b + 1 > 0 ? g.b << 1 : 0;":                                                 254,
		"g.b = 1; return g.b - 2 < 0;":                                                                  1,
	})
	runs(t,
		sample{text: inMain(ahead, "l[side()].b = side(); l[side()].a += side(); return l[2].a;"), stop: 1, code: 3, out: "0123"},
		exits(inMain("struct { unsigned a : 32; int b : 32; } x; ", "x.a = -1; x.b = -2147483647 - 1; return (x.a > 0) + (x.b < 0) + (x.a == 4294967295u) + (x.b - 1 > 0);"), 4),
		sample{text: inMain(ahead, "l[side()].b = side() + 5; return l[0].b * 10 + k;"), stop: 1, code: 62, out: "01"},
		sample{text: inMain(ahead, "l[side()].b += side() + 5; return l[0].b * 10 + k;"), stop: 1, code: 62, out: "01"},
		exits(inMain("struct { _Bool b : 1; unsigned n : 3; } x; ", "int i = (x.b = 8) * 10; x.n = 13; i += x.b; x.b = x.n & 2; return i * 10 + x.b;"), 110),
	)
}

// TestP15_3FieldsUnset: a field whose bytes it has for itself is set though nothing was, and its unit's other bytes stay as they are.
func TestP15_3FieldsUnset(t *testing.T) {
	const ahead = "struct B { unsigned a : 8, b : 8; int c : 16; }; struct C { char x; int f : 24; char y; }; struct D { unsigned a : 4, b : 4, c : 8; };"
	runs(t,
		exits(inMain(ahead, "struct B x; x.b = 300; return x.b;"), 44),
		exits(inMain(ahead, "struct B x; x.c = -7; return x.c;"), -7),
		exits(inMain(ahead, "struct B x, y; x.a = 5; y = x; return y.a++ + y.a;"), 11),
		exits(inMain(ahead, "struct C x; x.f = 0x1234567; return x.f;"), 0x234567),
		exits(inMain(ahead, "struct C x; x.y = 3; x.f = -1; return x.y * 10 + x.f;"), 29),
		exits(inMain(ahead, "struct D x; x.c = 9; return x.c;"), 9),
		exits(inMain(ahead, "struct D x; *(unsigned char *) &x = 0x5a; x.b = 3; return x.a * 10 + x.b;"), 103),
		exits(inMain(ahead, "struct D x; *(unsigned char *) &x = 0; x.a = 3; x.b = 4; return *(unsigned char *) &x;"), 0x43),
		exits(inMain(ahead+"int v; struct P { int *p; unsigned a : 8; unsigned b : 8; };", "struct P x; x.p = &v; x.a = 3; x.b = 4; *x.p = 5; return v * 100 + x.a * 10 + x.b;"), 534),
	)
}

package model

import (
	"fmt"
	"testing"

	"mortise/api"
)

// fieldTypes are the types of bit-fields, _Bool first.
func fieldTypes() []integer { return append([]integer{{"_Bool", 1, false}}, integers()...) }

// TestP12_3Fields: a bit-field of each type, width and place has what was put into it, cut to its bits, as a value and when it is read; and its neighbours stay.
func TestP12_3Fields(t *testing.T) {
	for _, k := range fieldTypes() {
		room := max(k.bits, 8)
		for bits := 1; bits <= k.bits; bits++ {
			for _, ahead := range []int{0, 1, 3, 7, 8, 9, 15, 16, 17, room - bits} {
				if ahead < 0 || ahead+bits > room || k.bits == 32 && bits > 3 && bits < 29 && bits%5 != 0 {
					continue
				}
				tryField(t, k, ahead, bits)
			}
		}
	}
}

// unsignedUnit is the unsigned type of so many bits.
func unsignedUnit(bits int) string {
	return map[int]string{8: "unsigned char", 16: "unsigned short", 32: "unsigned"}[bits]
}

// tryField sets a bit-field that has so many bits ahead of it, among bits that are all 1.
func tryField(t *testing.T, k integer, ahead, bits int) {
	t.Helper()
	room := max(k.bits, 8)
	unit, before, behind := unsignedUnit(room), "", ""
	if ahead > 0 {
		before = fmt.Sprintf("%s x : %d; ", unit, ahead)
	}
	if rest := room - ahead - bits; rest > 0 {
		behind = fmt.Sprintf("%s y : %d; ", unit, rest)
	}
	head := fmt.Sprintf("enum E { A }; struct S { %s%s f : %d; %s }; union { struct S s; %s all; } u, old; ", before, k.name, bits, behind, unit)
	for _, n := range []int64{0, 1, -1, 5, 1 << (bits - 1), 1<<bits - 2, 0x12345678, 2863311530} {
		want := held(n, bits, k.signed)
		if k.name == "_Bool" {
			want = min(int(uint32(n)), 1)
		}
		quick(t, inMain(head, fmt.Sprintf("u.all = -1; return u.s.f = %s;", literal(n))), want)
		quick(t, inMain(head, fmt.Sprintf("u.all = -1; u.s.f = %s; return u.s.f;", literal(n))), want)
		mask := (int64(1)<<bits - 1) << ahead
		all := (int64(1)<<room-1)&^mask | int64(want)<<ahead&mask
		quick(t, inMain(head, fmt.Sprintf("u.all = -1; u.s.f = %s; return u.all;", literal(n))), int(int32(all)))
		quick(t, inMain(head, fmt.Sprintf("u.s.f = %s; return u.all;", literal(n))), int(int32(int64(want)<<ahead&mask)))
	}
	agrees(t, inMain(head, fmt.Sprintf("u.all = -1; u.s.f = %s; u.s.f++; return u.s.f-- + u.all;", literal(2863311530))), "", enough)
}

// TestP12_3FieldsUnset: a byte that is not the field's alone must be known, to be read and to be set; one that is, must be known to be read.
func TestP12_3FieldsUnset(t *testing.T) {
	const head = "struct B { int a : 3, b : 5, c : 8, d : 12; unsigned e : 4; }; "
	runs(t,
		undefined(inMain(head, "struct B x; x.a = 1; return 0;")),
		undefined(inMain(head, "struct B x; return x.a;")),
		undefined(inMain(head, "struct B x; return x.c;")),
		exit(inMain(head, "struct B x; x.c = 7; return x.c;"), 7),   // a whole byte
		undefined(inMain(head, "struct B x; x.c = 7; return x.b;")), // its neighbour is not set
		undefined(inMain(head, "struct B x; x.d = 7; return 0;")),   // a whole byte and half of one
		exit(inMain(head, "struct B x; ((char *) &x)[3] = 0; x.d = -2; return x.d;"), -2),
		exit(inMain(head, "struct B x; ((char *) &x)[3] = -1; x.d = 5; return x.d * 100 + x.e;"), 515),
		undefined(inMain(head, "struct B x; ((char *) &x)[2] = 0; return x.d;")),
		undefined(inMain(head, "struct B x; ((char *) &x)[2] = 0; x.d = 1; return 0;")),
		undefined(inMain(head, "struct B x; ((char *) &x)[3] = 0; return x.d;")),
		exit(inMain(head, "struct B x; ((char *) &x)[3] = 0; x.e = 9; return x.e;"), 9),
		exit(inMain(head, "struct B x = { 0 }; x.a = 3; x.b = -9; x.c = 77; x.d = -2048; x.e = 15; return x.a == 3 && x.b == -9 && x.c == 77 && x.d == -2048 && x.e == 15;"), 1),
		undefined(inMain(head, "struct B x; x.a++; return 0;")),
		undefined(inMain(head, "struct B x; x.c++; return 0;")),
		exit(inMain("struct W { unsigned w : 32; }; ", "struct W x; x.w = 4294967290u; return x.w + 10;"), 4),
		exit(inMain("struct W { int a : 16; int b : 16; }; ", "struct W x; x.b = -3; return x.b;"), -3),
		undefined(inMain("struct W { int a : 16; int b : 16; }; ", "struct W x; x.b = -3; return x.a;")),
		exit(inMain("struct W { short a : 8; short b : 8; }; ", "struct W x; x.b = -3; x.a = 4; return x.b * 10 + x.a;"), -26),
		undefined(inMain("struct W { int a : 7; }; ", "struct W x; x.a = 3; return 0;")),
		exit(inMain("struct W { char a : 8; }; ", "struct W x; x.a = 200; return x.a;"), -56),
		undefined(inMain("struct W { _Bool a : 1; }; ", "struct W x; x.a = 1; return 0;")),
	)
}

// TestP12_3FieldsPointers: a byte that is a part of a pointer is no number.
func TestP12_3FieldsPointers(t *testing.T) {
	const head = "union { int *p; struct { int a : 4, b : 4, c : 8, d : 16; } f; struct { unsigned w : 32; } w; } u; int x; "
	runs(t,
		undefined(inMain(head, "u.p = &x; return u.f.a;")),
		undefined(inMain(head, "u.p = &x; u.f.a = 1; return 0;")),
		undefined(inMain(head, "u.p = &x; return u.f.d;")),
		exit(inMain(head, "u.p = &x; u.f.c = 1; u.f.d = 2; return u.f.c + u.f.d;"), 3),
		undefined(inMain(head, "u.p = &x; u.f.c = 1; return u.f.b;")),
		undefined(inMain(head, "u.p = &x; return u.w.w;")),
		exit(inMain(head, "u.p = &x; u.w.w = 16; return u.f.b;"), 1),
		exit(inMain(head, "u.w.w = 0; return u.p == 0;"), 1),
	)
}

// TestP12_3FieldsPlaces: a bit-field's bytes lie from its unit's place on, wherever that is, and need no alignment.
func TestP12_3FieldsPlaces(t *testing.T) {
	const head = "struct B { char k; int a : 5, b : 11; short h; unsigned z : 20; } s, v[3], *p = v + 1; char raw[12]; int n; "
	runs(t,
		exit(inMain(head, "v[2].b = -7; return v[2].b * 10 + v[1].b;"), -70),
		exit(inMain(head, "p->z = 1048575; p->a = -1; p[1].z = 3; return p->z + p->a + v[2].z;"), 1048575-1+3),
		exit(inMain(head, "((struct B *) raw)->a = 9; return ((struct B *) raw)->a;"), 9), // bytes alone are touched
		exit(inMain(head, "((struct B *) (raw + 1))->a = 9; return raw[2] & 31;"), 9),
		undefined(inMain(head, "((struct B *) &n)->z = 9; return 0;")),
		exit(inMain(head, "struct B *q = (struct B *) &n; q->b = 3; return q->b;"), 3), // the block ends behind the field
		exit(inMain("struct F { char z[3001]; unsigned a : 1, b : 17, c : 14; char y[9000]; unsigned d : 31, e : 1; } f; ", "f.b = 99999; f.c = 5000; f.e = 1; f.d = 77; return f.b + f.c * 10 + f.d * 100 + f.e * 1000 + f.a;"), 99999+50000+7700+1000),
		exit(inMain("struct F { char z[3001]; unsigned a : 1, b : 17, c : 14; char y[9000]; unsigned d : 31, e : 1; } f; ", "f.e = 1; return ((unsigned char *) &f)[sizeof f - 1] + ((unsigned char *) &f)[sizeof f - 2];"), 128),
		undefined(inMain(head, "p = 0; return p->a;")),
		undefined(inMain(head, "return v[3].a;")),
		exit(inMain("struct O { int x; struct { unsigned char c : 3, d : 5; } in[2]; } o; ", "o.in[1].d = 21; o.in[1].c = 6; return o.in[1].d * 10 + o.in[1].c + ((unsigned char *) &o)[5] * 1000;"), 216+(21*8+6)*1000),
		exit(inMain("union U { int a : 6; unsigned b : 9; int all; } u; ", "u.all = 0; u.b = 511; return u.a * 1000 + u.all;"), -1000+511),
	)
}

// TestP12_3FieldsValue: what a TxSet and a TxUpdate of a bit-field answer is what it has then, or had.
func TestP12_3FieldsValue(t *testing.T) {
	const head = "struct { int a : 3; unsigned b : 3; _Bool c : 1; char d : 8; enum { E } e : 2; } s; "
	for text, code := range map[string]int{
		"return s.a = 5;":                          -3,
		"return s.b = 13;":                         5,
		"return s.c = 2;":                          1,
		"return s.c = 0;":                          0,
		"return s.d = 200;":                        -56,
		"return s.e = 3;":                          -1,
		"s.a = 3; return s.a++ * 10 + s.a;":        26,
		"s.a = 3; return ++s.a * 10 + s.a;":        -44,
		"s.b = 7; return s.b++ * 10 + s.b;":        70,
		"s.b = 7; return ++s.b * 10 + s.b;":        0,
		"return s.b-- * 10 + s.b;":                 7,
		"return --s.b * 10 + s.b;":                 77,
		"return s.c++ * 10 + s.c++ + s.c * 100;":   101,
		"return s.c-- * 10 + s.c;":                 1,
		"s.c = 1; return --s.c * 10 + s.c;":        0,
		"return (s.a += 6) * 10 + s.a;":            -22,
		"s.b = 3; return (s.b *= 3) * 10 + s.b;":   11,
		"s.b = 3; return (s.b <<= 2) * 10 + s.b;":  44,
		"s.a = -4; return (s.a >>= 1) * 10 + s.a;": -22,
		"s.a = -1; return s.a == -1 && s.a < 0u;":  0,
		"s.b = 7; return s.b - 8 < 0;":             1,
		"return s.a = s.b = 7;":                    -1,
		"return (s.d = 127, s.d++, s.d);":          -128,
	} {
		runs(t, exit(inMain(head, text), code))
	}
	runs(t,
		sample{inMain(head, "s.a = 1; return 1 / (s.a - 1);"), api.StopZero, 0, ""},
		sample{inMain(head, "s.a /= s.b; return 1;"), api.StopZero, 0, ""},
	)
}

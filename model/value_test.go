package model

import (
	"fmt"
	"testing"

	"mortise/api"
)

// integer is an integer type: its width, and whether it has numbers below 0.
type integer struct {
	name   string
	bits   int
	signed bool
}

// integers are the integer types but _Bool. The enum needs a declaration.
func integers() []integer {
	return []integer{
		{"char", 8, true}, {"signed char", 8, true}, {"unsigned char", 8, false}, {"short", 16, true}, {"unsigned short", 16, false},
		{"int", 32, true}, {"unsigned int", 32, false}, {"long", 32, true}, {"unsigned long", 32, false}, {"enum E", 32, true},
	}
}

// held is a number as an object of so many bits holds it, signed or not, as an int.
func held(n int64, bits int, signed bool) int {
	n &= 1<<bits - 1
	if signed && n>>(bits-1) == 1 {
		n -= 1 << bits
	}
	return int(int32(n))
}

// someNumbers have each a sign of its own in some width.
func someNumbers() []int64 {
	return []int64{0, 1, -1, 2, 127, 128, 129, 255, 256, -128, -129, 32767, 32768, 65535, 65536, -32768, -32769, 2147483647, 2147483648, 4294967295, 305419896, 4023233417}
}

// literal is a number as C writes it: its lowest 32 bits as an unsigned int.
func literal(n int64) string { return fmt.Sprint(uint32(n), "u") }

// quick asks for a text's code alone.
func quick(t *testing.T, text string, code int) {
	t.Helper()
	if o := ran(t, text, "", enough); o.Stop != api.StopExit || o.Code != code {
		t.Errorf("%s: %v, want %d", text, o, code)
	}
}

// TestP12_3Conversions: each integer type holds a number as it is converted: cast, set, handed over, returned, read.
func TestP12_3Conversions(t *testing.T) {
	for _, k := range integers() {
		for _, n := range someNumbers() {
			for _, text := range []string{
				"int main(void) { return (int) (%[1]s) %[2]s; }",
				"%[1]s g; int main(void) { g = %[2]s; return g; }",
				"%[1]s g; int main(void) { return g = %[2]s; }",
				"%[1]s f(%[1]s x) { return x; } int main(void) { return f(%[2]s); }",
				"%[1]s f(unsigned x) { return x; } int main(void) { return f(%[2]s); }",
				"int main(void) { %[1]s x = %[2]s, *p = &x; return *p; }",
				"struct { char c; %[1]s x; } s; int main(void) { s.x = %[2]s; return s.x; }",
			} {
				quick(t, "enum E { A }; "+fmt.Sprintf(text, k.name, literal(n)), held(n, k.bits, k.signed))
			}
		}
	}
	for _, n := range someNumbers() {
		for _, text := range []string{
			"int main(void) { return (_Bool) %s; }", "_Bool b; int main(void) { return b = %s; }", "_Bool b; int main(void) { b = %s; return *(char *) &b; }",
			"_Bool f(unsigned n) { return n; } int main(void) { return f(%s); }", "int f(_Bool b) { return b; } int main(void) { return f(%s); }",
		} {
			quick(t, fmt.Sprintf(text, literal(n)), min(int(uint32(n)), 1))
		}
	}
}

// TestP12_3Constants: numbers are as their types have them.
func TestP12_3Constants(t *testing.T) {
	runs(t,
		exit("int main(void) { return 4294967295u == -1; }", 1),
		exit("int main(void) { return 4294967295u > 0 && 2147483648u > 2147483647; }", 1),
		exit("int main(void) { return '\\377' < 0; }", 1),
		exit("enum E { A = -2147483647 - 1, B }; int main(void) { return A < 0 && B == A + 1; }", 1),
		exit("char c[2] = \"\\200\"; int main(void) { char d[2] = \"\\200\"; unsigned char u[2] = \"\\200\"; return c[0] + d[0] + u[0]; }", -128),
		exit("int main(void) { int *p = 0; char *q = (char *) 0; return p == 0 && q == 0 && !p; }", 1),
	)
	p := copiedProg(programOf(t, "int main(void) { return (int *) 0 == 0; }"))
	everyNode(&p.Funcs[0].Body, func(x *api.Tree) {
		if x.Kind == api.TxCmp {
			x.Sub[0].Num = 5 // of a pointer it is 0, whatever stands there
		}
	})
	if o := mustRun(t, p, nil, enough); o.Stop != api.StopExit || o.Code != 1 {
		t.Errorf("%v", o)
	}
}

// TestP12_3Bytes: objects are the bytes of their numbers, the lowest first, and bytes make objects.
func TestP12_3Bytes(t *testing.T) {
	runs(t,
		exit("int x = 0x12345678; int main(void) { unsigned char *p = (unsigned char *) &x; return p[0] == 0x78 && p[1] == 0x56 && p[2] == 0x34 && p[3] == 0x12; }", 1),
		exit("int x; int main(void) { char *p = (char *) &x; p[0] = 1; p[1] = 2; p[2] = 3; p[3] = 4; return x; }", 0x04030201),
		exit("int main(void) { int x; char *p = (char *) &x; p[0] = 1; p[1] = 2; p[2] = 3; p[3] = 4; return x; }", 0x04030201),
		undefined("int main(void) { int x; char *p = (char *) &x; p[0] = 1; p[1] = 2; p[3] = 4; return x; }"),
		exit("int main(void) { int x; char *p = (char *) &x; p[0] = 1; p[1] = 2; return *(short *) p; }", 0x0201),
		exit("int x = -2; int main(void) { return *(unsigned char *) &x + *(char *) &x + *(unsigned short *) &x + *(short *) &x; }", 254-2+65534-2),
		exit("int x[2] = { 1, 2 }; int main(void) { return *(short *) ((char *) x + 4) + *((char *) x + 4); }", 4),
		undefined("int x[2] = { 1, 2 }; int main(void) { return *(short *) ((char *) x + 3); }"),
		undefined("int x[2] = { 1, 2 }; int main(void) { return *(int *) ((char *) x + 2); }"),
		undefined("int x[2] = { 1, 2 }; int main(void) { *(int *) ((char *) x + 2) = 3; return 0; }"),
		undefined("char x[8]; int main(void) { return *(int *) x; }"), // its block is not aligned
		undefined("int x; int main(void) { return ((char *) &x)[4]; }"),
		undefined("int x; int main(void) { ((char *) &x)[4] = 1; return 0; }"),
		undefined("int x; int main(void) { return ((char *) &x)[-1]; }"),
		exit("union { _Bool b; unsigned char c; } u; int main(void) { u.c = 5; return u.b; }", 5), // it is loaded, and not converted
	)
}

// TestP12_3PointerBytes: a pointer is no number and a number no pointer, but for 0.
func TestP12_3PointerBytes(t *testing.T) {
	const u = "int x = 7; union { int n; int *p; char c[4]; unsigned short h[2]; } u; "
	runs(t,
		exit(inMain(u, "u.p = &x; return *u.p;"), 7),
		undefined(inMain(u, "u.p = &x; return u.n;")),
		undefined(inMain(u, "u.p = &x; return u.c[0];")),
		undefined(inMain(u, "u.p = &x; return u.h[1];")),
		undefined(inMain(u, "u.p = &x; u.n; return 0;")), // it is asked for, if only to be thrown away
		undefined(inMain(u, "int k; u.p = &x; k = u.n; return 0;")),
		undefined(inMain(u, "u.p = &x; u.n++; return 0;")),
		undefined(inMain(u, "u.n = 4; return *u.p;")),
		undefined(inMain(u, "u.n = 4; u.p; return 0;")),
		undefined(inMain(u, "u.n = 1 << 31; u.p; return 0;")),
		exit(inMain(u, "u.n = 0; return u.p == 0;"), 1),
		exit(inMain(u, "u.p = 0; return u.n + u.c[3];"), 0),
		undefined(inMain(u, "u.n = 0; return *u.p;")),
		undefined(inMain(u, "u.p = &x; u.c[2] = 0; u.p; return 0;")),
		exit(inMain(u, "u.p = &x; u.c[2] = 3; return u.c[2];"), 3),
		undefined(inMain(u, "u.p = &x; u.c[0] = u.c[1] = u.c[2] = 0; u.p; return 0;")),
		exit(inMain(u, "u.p = &x; u.c[0] = u.c[1] = u.c[2] = u.c[3] = 0; return u.p == 0 && u.n == 0;"), 1),
		undefined(inMain("", "int *p; return p == p;")),
		undefined(inMain("", "int *p; p; return 0;")),
		exit(inMain("", "int *p, **q = &p; p = 0; return *q == 0;"), 1),
		undefined(inMain("", "int *p, x; p = &x; return *(char *) &p;")),
		exit(inMain("", "int x = 3, *p = &x, **q = &p; return **q;"), 3),
		exit(inMain("", "int x = 3; void *v = &x; char *c = v; return *(int *) c;"), 3),
	)
}

// TestP12_3Places: where places lie, and which are none.
func TestP12_3Places(t *testing.T) {
	const s = "struct S { char c; struct T { short h; int n[3]; } t[2]; union { int i; char z[8]; } u; } s, a[2], *p = a; int x; "
	runs(t,
		exit(inMain(s, "s.t[1].n[2] = 5; return ((char *) &s)[offsetof(struct S, t[1].n[2])];"), 5),
		exit(inMain(s, "return (char *) &s.t[1].n[2] - (char *) &s == offsetof(struct S, t[1].n[2]);"), 1),
		exit(inMain(s, "a[1].u.z[7] = 9; return (p + 1)->u.z[7] + ((char *) a)[sizeof a - 1];"), 18),
		exit(inMain(s, "return &p[1].t[0] == a[1].t && &*p == p && &p->c == (char *) p;"), 1),
		exit(inMain(s, "s.u.z[0] = 1; s.u.z[1] = 1; s.u.z[2] = 0; s.u.z[3] = 0; return s.u.i;"), 257),
		exit(inMain("struct F { char z[9000]; int n; short h[3000]; char c; } f, g; ", "f.n = 5; f.h[2999] = 6; f.c = 7; g = f; return g.n * 100 + g.h[2999] * 10 + g.c + ((char *) &f)[9000] * 1000;"), 5567),
		undefined(inMain(s, "return a[2].c;")),
		undefined(inMain(s, "return a[-1].c;")),
		undefined(inMain(s, "return s.t[2].n[2];")),              // it lies behind the block
		exit(inMain(s, "return s.t[0].n[3] + s.t[1].n[-1];"), 0), // it lies in the block
		undefined(inMain(s, "return ((struct S *) &x)->u.i;")),
		undefined(inMain(s, "&((struct S *) &x)->u.i; return 0;")), // moved behind the block
		exit(inMain(s, "((struct T *) &x)->n; return 3;"), 3),      // moved to its end
		undefined(inMain(s, "((struct T *) &x)->n[0]; return 3;")),
		undefined(inMain(s, "p = 0; return p->c;")),
		undefined(inMain(s, "p = 0; &p->c; return 3;")),
		undefined(inMain(s, "p = 0; &*p; return 3;")),
		undefined(inMain(s, "p = 0; p[0]; return 3;")),
		undefined(inMain(s, "int *q = 0; *q = 3; return 3;")),
		undefined(inMain(s, "int *q = 0; return *q;")),
		undefined(inMain("int *f(void) { int x; return &x; }", "&f()[0]; return 0;")),
		exit(inMain("int *f(void) { int x; return &x; }", "&*f(); return 4;"), 4), // nothing is asked of it
		undefined(inMain("struct S { int x; } *f(void) { struct S s; return &s; }", "&f()->x; return 4;")),
	)
}

// TestP12_3Nothing: what a function has that ends without a value may be thrown away, and nothing else.
func TestP12_3Nothing(t *testing.T) {
	const ahead = "int x, y = 1; struct S { int a; } s; int f(void) { } char c(void) { if (x) return 1; } int *p(void) { } struct S g(void) { } int h(int n) { return 2; } void k(struct S s) { } struct S *q; "
	for _, text := range []string{
		"f();", "(void) f();", "f(), 3;", "x = (f(), 4);", "c();", "p();", "g();", "(void) g();", "g(), s;", "y ? f() : 2;", "x ? 2 : f();", "3, f();", "(void) (3, f());",
		"for (f(); x < 2; f()) x++;", "for (; x < 2; g()) x++;", "y ? g() : s;", "x ? s : g();", "(f(), f());", "y ? (void) f() : (void) g();", "x && f();", "y || f();",
	} {
		runs(t, exit(inMain(ahead, text+" return 7;"), 7))
	}
	for _, text := range []string{
		"x = f();", "x += f();", "f() + 1;", "1 + f();", "f() == f();", "-f();", "!f();", "f() && 1;", "y && f();", "x || f();", "f() ? 1 : 2;", "(y ? f() : 2) + 1;", "x = (3, f());",
		"(char) f();", "(int) c();", "(_Bool) f();", "c() + 1;", "h(f());", "h(c());", "putchar(f());", "exit(f());", "return f();", "return c();", "if (f()) ;", "while (f()) ;", "do ; while (f());", "for (; f(); ) ;",
		"*p();", "p()[0];", "p() + 1;", "&x - p();", "p() == 0;", "p() == &x;", "!p();", "(char *) p();", "(void *) p();", "int *z = p();", "int z[2] = { f() };", "int z = f();", "(_Bool) p();",
		"s = g();", "g().a;", "k(g());", "struct S z = g();", "(struct S) { f() };", "s = y ? g() : s;", "k((3, g()));", "s.a = f();", "(&x)[f()];", "x = c();",
	} {
		runs(t, undefined(inMain(ahead, text+" return 7;")))
	}
	runs(t,
		undefined("struct S { int a; }; struct S g(void) { } struct S h(void) { return g(); } int main(void) { h(); return 7; }"), // to return it is to take it
		undefined("int f(void) { } int h(void) { return f(); } int main(void) { h(); return 7; }"),
		undefined("int *f(void) { } int *h(void) { return f(); } int main(void) { h(); return 7; }"),
		exit("int f(int n) { if (n) return n; } int main(void) { f(0); return f(5); }", 5),
		exit("int f(int n) { while (1) { if (n) break; return 3; } } int main(void) { f(1); return f(0); }", 3),
		exit("int f(int n) { if (n) return n; } int main(void) { f(5); f(0); return f(6); }", 6),
		undefined("int f(int n) { if (n) return n; } int main(void) { f(5); return f(0); }"),
		undefined("int f(void) { } int main(void) { return f() / 0; }"),
	)
}

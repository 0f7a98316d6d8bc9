package parse

import (
	"slices"
	"strings"
	"testing"

	"mortise/api"
)

// asks puts a question behind a text: what T * x ; becomes in a block.
func asks(s string) (alias bool, f api.Fault) {
	x, f := Unit(s)
	kind := map[string]bool{}
	var all func(x api.Tree)
	all = func(x api.Tree) {
		for i, y := range x.Sub {
			if y.Kind == api.TrDecl && len(y.Sub) == 2 && y.Sub[0].Text == "T" && y.Sub[1].Text == "asked" {
				kind["alias"] = true
			}
			if y.Kind == api.TsExpr && y.Sub[0].Text == "*" && y.Sub[0].Sub[1].Text == "asked" {
				kind["plain"] = true
			}
			all(x.Sub[i])
		}
	}
	all(x)
	if f == (api.Fault{}) && len(kind) != 1 {
		panic("no one answer of " + s)
	}
	return kind["alias"], f
}

// TestP6_1Scopes asks what T stands for, where ? stands in a block.
func TestP6_1Scopes(t *testing.T) {
	const typedef, variable = "typedef int T; ", "int T; "
	for _, c := range []struct {
		text  string
		alias bool
	}{
		{typedef + "int f(void) { ? }", true}, {variable + "int f(void) { ? }", false}, {"int f(void) { ? }", false},
		{typedef + variable + "int f(void) { ? }", false}, {variable + typedef + "int f(void) { ? }", true}, {typedef + "static int T; int f(void) { ? }", false},
		// a block
		{typedef + "int f(void) { int T; ? }", false}, {typedef + "int f(void) { { int T; } ? }", true}, {typedef + "int f(void) { int T; { ? } }", false}, {typedef + "int f(void) { int T; { typedef int T; ? } }", true}, {typedef + "int f(void) { int T; { typedef int T; } ? }", false},
		{"int f(void) { typedef int T; ? }", true}, {"int f(void) { typedef int T; { ? } }", true}, {"int f(void) { { typedef int T; } ? }", false}, {"int f(void) { typedef int T; } int g(void) { ? }", false}, {"int f(void) { typedef int T; int T; ? }", false},
		{typedef + "int f(void) { if (1) { int T; } else ; ? }", true}, {typedef + "int f(void) { while (1) { int T; } ? }", true},
		// a for
		{typedef + "int f(void) { for (int T; ; ) { ? } }", false}, {typedef + "int f(void) { for (int T; ; ) ; ? }", true}, {"int f(void) { for (typedef int T; ; ) { ? } }", true}, {"int f(void) { for (typedef int T; ; ) ; ? }", false}, {typedef + "int f(void) { for (int T; T; T * 2) T * 3; ? }", true}, {typedef + "int f(void) { for (; sizeof(enum { T }); ) { ? } }", false}, {typedef + "int f(void) { for (; ; sizeof(enum { T })) ; ? }", true},
		// params, and those of a function's own
		{typedef + "int f(int T) { ? }", false}, {typedef + "int f(int T); int g(void) { ? }", true}, {typedef + "int f(int T) { } int g(void) { ? }", true}, {typedef + "int f(int T) { { ? } }", false}, {typedef + "int f(int T) { typedef int T; ? }", true}, {typedef + "int f(int T) { { typedef int T; } ? }", false},
		{typedef + "int f(int (*g)(int T)) { ? }", true}, {typedef + "int (*f(void))(int T) { ? }", true}, {typedef + "int (*f(int T))(int x) { ? }", false}, {typedef + "int (*f(int x))(int T) { ? }", true}, {typedef + "int (*(*f(int T))(int a))(int b) { ? }", false}, {typedef + "int (*(*f(int x))(int T))(int T) { ? }", true}, {typedef + "int (f)(int T) { ? }", false}, {typedef + "int *f(int T) { ? }", false}, {typedef + "int f(int T)[2] { ? }", false}, {typedef + "int f(int T)(int a) { ? }", false}, {typedef + "int f(int a)(int T) { ? }", true}, {typedef + "int (*f(int a[sizeof(int (*)(int T))]))(int b) { ? }", true},
		{typedef + "int f(enum { T } x) { ? }", false}, {typedef + "int f(enum { T } x); int g(void) { ? }", true}, {typedef + "int f(struct { int T; } x) { ? }", true},
		// where a declarator's name begins to be
		{typedef + "int T(void) { ? }", false}, {typedef + "int g(void) { } int T(void); int f(void) { ? }", false}, {typedef + "int f(void) { T T; ? }", false}, {typedef + "int f(void) { T (T); ? }", false}, {typedef + "int f(void) { T a, T, b; ? }", false}, {"int f(void) { typedef int a, T, b; ? }", true},
		// an enum
		{typedef + "enum { T }; int f(void) { ? }", false}, {typedef + "enum { A = sizeof(T), T, B = T }; int f(void) { ? }", false}, {typedef + "int f(void) { enum { T } x; ? }", false}, {typedef + "int f(void) { { enum { T } x; } ? }", true}, {typedef + "int f(void) { sizeof(enum { T }); ? }", false}, {typedef + "struct { enum { T } x; } y; int f(void) { ? }", false}, {typedef + "int f(void) { if (sizeof(enum { T })) ; ? }", false},
		// what declares nothing
		{typedef + "struct T { int T; T x; } y; int f(void) { ? }", true}, {typedef + "enum T { A }; union T; int f(void) { ? }", true}, {typedef + "int f(void) { a.T; a->T; offsetof(T, T.T); ? }", true}, {typedef + "int a = { .T = 1 }; int f(void) { ? }", true}, {"struct T; struct { int T; } x; int f(void) { ? }", false},
	} {
		alias, f := asks(strings.Replace(c.text, "?", "T * asked;", 1))
		if f != (api.Fault{}) || alias != c.alias {
			t.Errorf("%q: %v, %v", c.text, alias, f)
		}
	}
}

// TestP6_1Behind asks where a name begins and ends to stand for a type, by texts that are read just then.
func TestP6_1Behind(t *testing.T) {
	const typedef = "typedef int T; "
	for _, s := range []string{
		"int T = T * 2;", "int T = sizeof(T);", "int a[sizeof(T)], T = 1, b[T];", "T T, *a = T;", "typedef int T, *U; U a; T b;", "typedef T U; U a;", "int f(int a[sizeof(T)], int T, int b[T]);", "int f(int T), g(T x);", "int f(int g(int T), T x);", "struct { int (*f)(int T); T x; } y;", "enum { T = sizeof(T), B = T };", "enum { A = (T)1, T = 2, B = T * 1 };",
		"int (*f(int T))(T x);", "int f(T T);", "T f(T a) { T b; return a; }", "int x = (T){1}; int T = T + 1;", "int f(void) { for (T T = 0; T < 1; T++) T = 1; T y; }", "int f(int T) { return T; } T y;", "struct T { struct T *T; T y; };", "T f(int T) { return (T) - 1; }", "static T *f(T T) { T++; }", "int f(int a, int T) { a = T * a; a ? T : 2; }",
	} {
		if _, f := Unit(typedef + s); f != (api.Fault{}) {
			t.Errorf("%q: %v", s, f)
		}
	}
	for _, s := range []string{
		"int T; @T x;", "T T, a; @T x;", "int f(int T, @T x);", "int f(int T) { T @x; }", "enum { T, A = sizeof(T *@) };", "enum { T }; @T x;", "int T(void) { return 1; } @T x;", "int f(void) { int T; T @x; }", "int a[sizeof(T)], T, b = (T) @1;", "int f(void) { return @T; }", "int f(void) { typedef int a; } @a x;", "int f(void) { for (typedef int a; ; ) ; a @x; }", "int f(@a);", "int f(void) { int g(int T); T @+ 1; }",
	} {
		stops(t, unitOf, nil, typedef+s)
	}
}

// TestP6_2Aliases hands in aliases of all kinds.
func TestP6_2Aliases(t *testing.T) {
	long := strings.Repeat("n", api.MaxName)
	aliases := []string{"", "T", "int", "a b", "T", " U", "1", "sizeof", "(", "U ", "ü", "*", long, long + "n", "\x00", "x", "T"}
	before := slices.Clone(aliases)
	reads(t, exprOf, aliases, []sample{{"(T) - 1", "Cast(Type(Alias:T Hole) Un:-(1))"}, {"(U) - 1", "Bi:-(U 1)"}, {"(a) - 1", "Bi:-(a 1)"}, {"(int) - 1", "Cast(Type(Base:int Hole) Un:-(1))"}, {"sizeof (1)", "SizeE(1)"}, {"((" + long + ") - 1)", "Cast(Type(Alias:" + long + " Hole) Un:-(1))"}, {"a * (b)", "Bi:*(a b)"}})
	reads(t, typeOf, aliases, []sample{{"T", "Type(Alias:T Hole)"}, {"x", "Type(Alias:x Hole)"}, {"int", "Type(Base:int Hole)"}, {long + "*", "Type(Alias:" + long + " Ptr(Hole))"}})
	stops(t, typeOf, aliases, "@U", "@a", "@sizeof", "@", "@1", "@*", "T @T", "int @x")
	stops(t, typeOf, nil, "@T", "@x")
	stops(t, typeOf, []string{""}, "@", "@T")
	if !slices.Equal(aliases, before) {
		t.Error("the aliases were changed")
	}
	reads(t, exprOf, []string{"T"}, []sample{
		{"sizeof(enum { T }) + T * 2", "Bi:+(SizeT(Type(Tag#3(Body(Enum:T)) Hole)) Bi:*(T 2))"},
		{"(int (*)(int T))(T)a", "Cast(Type(Base:int Ptr(Fn(Hole Param:T(Base:int Hole)))) Cast(Type(Alias:T Hole) a))"},
	})
	reads(t, typeOf, []string{"T"}, []sample{{"int (int T, int x[T])", "Type(Base:int Fn(Hole Param:T(Base:int Hole) Param:x(Base:int Array(Hole T))))"}})
	stops(t, typeOf, []string{"T"}, "int (int T, @T x)", "enum { T } (*)(@T)")
}

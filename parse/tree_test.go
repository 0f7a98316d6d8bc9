package parse

import (
	"slices"
	"strings"
	"testing"

	"mortise/api"
)

func TestP6_1Examples(t *testing.T) {
	reads(t, unitOf, nil, []sample{
		{"typedef int T; T * x;", "Unit(Decl#1(Base:int Var:T(Hole)) Decl(Alias:T Var:x(Ptr(Hole))))"},
		{"int T; int f(void) { T * x; }", "Unit(Decl(Base:int Var:T(Hole)) Func:f(Base:int Fn(Hole) Block(Expr(Bi:*(T x)))))"},
		{"typedef int T; int f(int T) { return T * 2; }", "Unit(Decl#1(Base:int Var:T(Hole)) Func:f(Base:int Fn(Hole Param:T(Base:int Hole)) Block(Return(Bi:*(T 2)))))"},
	})
	reads(t, typeOf, nil, []sample{{"int (*)[3]", "Type(Base:int Ptr(Array(Hole 3)))"}})
	reads(t, typeOf, []string{"T"}, []sample{{"T *", "Type(Alias:T Ptr(Hole))"}})
	reads(t, exprOf, nil, []sample{
		{"sizeof (int){1}", "SizeE(Lit(Type(Base:int Hole) List(Item(1))))"},
		{"(x) - 1", "Bi:-(x 1)"},
	})
	reads(t, exprOf, []string{"x"}, []sample{{"(x) - 1", "Cast(Type(Alias:x Hole) Un:-(1))"}})
}

// TestP6_1Units reads the lines of unit, function, declaration, variable.
func TestP6_1Units(t *testing.T) {
	reads(t, unitOf, nil, []sample{
		{"", "Unit"}, {" /* ; */ // x", "Unit"},
		{"int;", "Unit(Decl(Base:int))"},
		{"static int;", "Unit(Decl#2(Base:int))"},
		{"int x; int f(void) {} int y;", "Unit(Decl(Base:int Var:x(Hole)) Func:f(Base:int Fn(Hole) Block) Decl(Base:int Var:y(Hole)))"},
		{"static int f() { }", "Unit(Func:f#2(Base:int Fn(Hole) Block))"},
		{"int static f(int) { }", "Unit(Func:f#2(Base:int Fn(Hole Param(Base:int Hole)) Block))"},
		{"int (f)(void) { }", "Unit(Func:f(Base:int Fn(Hole) Block))"},
		{"int *f(int a, char *b) { }", "Unit(Func:f(Base:int Fn(Ptr(Hole) Param:a(Base:int Hole) Param:b(Base:char Ptr(Hole))) Block))"},
		{"int (*f(int a))[3] { }", "Unit(Func:f(Base:int Fn(Ptr(Array(Hole 3)) Param:a(Base:int Hole)) Block))"},
		{"int f(void)[2] { }", "Unit(Func:f(Base:int Fn(Array(Hole 2)) Block))"},
		{"int a, *b = 0, c[] = {1};", "Unit(Decl(Base:int Var:a(Hole) Var:b(Ptr(Hole) 0) Var:c(Array(Hole) List(Item(1)))))"},
		{"typedef int f(void), g = 1;", "Unit(Decl#1(Base:int Var:f(Fn(Hole)) Var:g(Hole 1)))"},
		{"int f(void) = 1;", "Unit(Decl(Base:int Var:f(Fn(Hole) 1)))"},
		{"int a = b = c;", "Unit(Decl(Base:int Var:a(Hole Set:=(b c))))"},
	})
}

// TestP6_1Tags reads structs, unions and enums.
func TestP6_1Tags(t *testing.T) {
	reads(t, typeOf, []string{"T"}, []sample{
		{"struct S", "Type(Tag:S#1 Hole)"}, {"union T", "Type(Tag:T#2 Hole)"}, {"enum E", "Type(Tag:E#3 Hole)"},
		{"struct { int a; }", "Type(Tag#1(Body(Fields(Base:int Field:a(Hole)))) Hole)"},
		{"union U { T T; T *b, c[2]; }*", "Type(Tag:U#2(Body(Fields(Alias:T Field:T(Hole)) Fields(Alias:T Field:b(Ptr(Hole)) Field:c(Array(Hole 2))))) Ptr(Hole))"},
		{"struct S { int a : 1 ? 2 : 3, : 4, b; int : 0; }", "Type(Tag:S#1(Body(Fields(Base:int Field:a(Hole Cond(1 2 3)) Field(Hole 4) Field:b(Hole)) Fields(Base:int Field(Hole 0)))) Hole)"},
		{"struct { struct { int a; } b; }", "Type(Tag#1(Body(Fields(Tag#1(Body(Fields(Base:int Field:a(Hole)))) Field:b(Hole)))) Hole)"},
		{"struct { int (a)(int T), (*b) : 2; }", "Type(Tag#1(Body(Fields(Base:int Field:a(Fn(Hole Param:T(Base:int Hole))) Field:b(Ptr(Hole) 2)))) Hole)"},
		{"enum { A }", "Type(Tag#3(Body(Enum:A)) Hole)"},
		{"enum T { A, B = 1, C = A | B, }", "Type(Tag:T#3(Body(Enum:A Enum:B(1) Enum:C(Bi:|(A B)))) Hole)"},
	})
}

// TestP6_1Words puts the words of each basic type into every order.
func TestP6_1Words(t *testing.T) {
	if len(allBasic) != 22 {
		t.Fatalf("%d sets of words", len(allBasic))
	}
	for words, means := range allBasic {
		for _, l := range orders(strings.Fields(words)) {
			text := strings.Join(l, " ")
			reads(t, typeOf, nil, []sample{{text, "Type(Base:" + means + " Hole)"}})
			reads(t, unitOf, nil, []sample{{"static " + text + " x;", "Unit(Decl#2(Base:" + means + " Var:x(Hole)))"}})
			for _, more := range []string{"void", "_Bool", "char", "short", "int", "long", "signed", "unsigned", "struct", "enum"} {
				all := append(slices.Clone(l), more)
				slices.Sort(all)
				if _, ok := allBasic[strings.Join(all, " ")]; !ok {
					stops(t, typeOf, nil, text+" @"+more)
					stops(t, unitOf, nil, "typedef "+text+" @"+more+" x;", text+" static @"+more+" x;")
				}
			}
		}
	}
}

// orders are all orders of a list.
func orders(l []string) [][]string {
	if len(l) == 0 {
		return [][]string{nil}
	}
	var all [][]string
	for i := range l {
		for _, rest := range orders(slices.Delete(slices.Clone(l), i, i+1)) {
			all = append(all, append([]string{l[i]}, rest...))
		}
	}
	return all
}

// TestP6_1Storage puts typedef and static among specifiers.
func TestP6_1Storage(t *testing.T) {
	reads(t, unitOf, nil, []sample{
		{"unsigned static int x;", "Unit(Decl#2(Base:unsigned int Var:x(Hole)))"},
		{"int unsigned typedef x;", "Unit(Decl#1(Base:unsigned int Var:x(Hole)))"},
		{"struct S static x;", "Unit(Decl#2(Tag:S#1 Var:x(Hole)))"},
		{"typedef int T; T static x; T typedef U; U y;", "Unit(Decl#1(Base:int Var:T(Hole)) Decl#2(Alias:T Var:x(Hole)) Decl#1(Alias:T Var:U(Hole)) Decl(Alias:U Var:y(Hole)))"},
		{"typedef int T; T T; ", "Unit(Decl#1(Base:int Var:T(Hole)) Decl(Alias:T Var:T(Hole)))"},
		{"typedef int T; unsigned T;", "Unit(Decl#1(Base:int Var:T(Hole)) Decl(Base:unsigned int Var:T(Hole)))"},
	})
	stops(t, unitOf, nil, "static @static int x;", "static int @typedef x;", "typedef @static int x;", "typedef int @static x;", "static @;", "typedef @x;", "@x;", "static @", "int f(@static int a);", "struct { @static int a; };", "struct { int @static a; };")
	stops(t, typeOf, nil, "@static int", "int @static", "@typedef int")
	stops(t, unitOf, nil, "typedef int T; T @int x;", "typedef int T; T @struct S x;", "typedef int T; int T @x;", "struct S @int x;", "typedef int T; T (@int);", "struct S T @x;", "typedef int T, U; T static U @x;")
}

// TestP6_1Declarators reads stars, brackets and parentheses within each other, as a variable, a member and a param, and without a name.
func TestP6_1Declarators(t *testing.T) {
	for _, d := range []struct{ named, alone, want string }{
		{"x", "", "Hole"}, {"(x)", "", "Hole"}, {"((x))", "", "Hole"},
		{"*x", "*", "Ptr(Hole)"}, {"*(x)", "*", "Ptr(Hole)"}, {"(*x)", "(*)", "Ptr(Hole)"}, {"*(*(x))", "*(*)", "Ptr(Ptr(Hole))"}, {"***x", "***", "Ptr(Ptr(Ptr(Hole)))"},
		{"x[]", "[]", "Array(Hole)"}, {"x[a?b:c]", "[a?b:c]", "Array(Hole Cond(a b c))"}, {"(x)[2]", "([2])", "Array(Hole 2)"}, {"((x)[2])", "([2])", "Array(Hole 2)"},
		{"*a[2][3]", "*[2][3]", "Array(Array(Ptr(Hole) 3) 2)"}, {"(*a)[2][3]", "(*)[2][3]", "Ptr(Array(Array(Hole 3) 2))"}, {"(*a[2])[3]", "(*[2])[3]", "Array(Ptr(Array(Hole 3)) 2)"},
		{"*(*a)[3]", "*(*)[3]", "Ptr(Array(Ptr(Hole) 3))"}, {"**(**a[1])[2]", "**(**[1])[2]", "Array(Ptr(Ptr(Array(Ptr(Ptr(Hole)) 2))) 1)"}, {"(*(*a)[2])[3]", "(*(*)[2])[3]", "Ptr(Array(Ptr(Array(Hole 3)) 2))"},
		{"x()", "()", "Fn(Hole)"}, {"x(void)", "(void)", "Fn(Hole)"}, {"(x(void))", "((void))", "Fn(Hole)"}, {"*x(int)", "*(int)", "Fn(Ptr(Hole) Param(Base:int Hole))"},
		{"(*x)(int a)", "(*)(int a)", "Ptr(Fn(Hole Param:a(Base:int Hole)))"}, {"x[1](int)[2]", "[1](int)[2]", "Array(Fn(Array(Hole 2) Param(Base:int Hole)) 1)"},
		{"(*x(int a))(int b)", "(*(int a))(int b)", "Fn(Ptr(Fn(Hole Param:b(Base:int Hole))) Param:a(Base:int Hole))"},
		{"(*(*x)(int a))[3]", "(*(*)(int a))[3]", "Ptr(Fn(Ptr(Array(Hole 3)) Param:a(Base:int Hole)))"},
	} {
		name := "x"
		if strings.Contains(d.named, "a") && !strings.Contains(d.named, "x") {
			name = "a"
		}
		reads(t, unitOf, nil, []sample{
			{"int " + d.named + ";", "Unit(Decl(Base:int Var:" + name + "(" + d.want + ")))"},
			{"struct { int " + d.named + "; };", "Unit(Decl(Tag#1(Body(Fields(Base:int Field:" + name + "(" + d.want + "))))))"},
			{"int f(int " + d.named + ");", "Unit(Decl(Base:int Var:f(Fn(Hole Param:" + name + "(Base:int " + d.want + ")))))"},
			{"int f(int " + d.alone + ", int " + d.named + ");", "Unit(Decl(Base:int Var:f(Fn(Hole Param(Base:int " + d.want + ") Param:" + name + "(Base:int " + d.want + ")))))"},
		})
		reads(t, typeOf, nil, []sample{{"int " + d.alone, "Type(Base:int " + d.want + ")"}})
	}
}

// TestP6_1Params reads params, and what else may be in parentheses.
func TestP6_1Params(t *testing.T) {
	reads(t, typeOf, []string{"T"}, []sample{
		{"int (void)", "Type(Base:int Fn(Hole))"}, {"int (void *)", "Type(Base:int Fn(Hole Param(Base:void Ptr(Hole))))"},
		{"int (void, int)", "Type(Base:int Fn(Hole Param(Base:void Hole) Param(Base:int Hole)))"}, {"int (int, void)", "Type(Base:int Fn(Hole Param(Base:int Hole) Param(Base:void Hole)))"},
		{"int (void x)", "Type(Base:int Fn(Hole Param:x(Base:void Hole)))"}, {"int (void (void))", "Type(Base:int Fn(Hole Param(Base:void Fn(Hole))))"},
		{"int (T)", "Type(Base:int Fn(Hole Param(Alias:T Hole)))"}, {"int ((T))", "Type(Base:int Fn(Hole Param(Alias:T Hole)))"}, {"int *(T)", "Type(Base:int Fn(Ptr(Hole) Param(Alias:T Hole)))"},
		{"int (int (x))", "Type(Base:int Fn(Hole Param:x(Base:int Hole)))"}, {"int (int (T))", "Type(Base:int Fn(Hole Param(Base:int Fn(Hole Param(Alias:T Hole)))))"},
		{"int (int ((T)))", "Type(Base:int Fn(Hole Param(Base:int Fn(Hole Param(Alias:T Hole)))))"}, {"int (int T)", "Type(Base:int Fn(Hole Param:T(Base:int Hole)))"},
		{"int (int *T)", "Type(Base:int Fn(Hole Param:T(Base:int Ptr(Hole))))"}, {"int (int (*T))", "Type(Base:int Fn(Hole Param:T(Base:int Ptr(Hole))))"},
		{"int (T (x))", "Type(Base:int Fn(Hole Param:x(Alias:T Hole)))"}, {"int (T (T), T T)", "Type(Base:int Fn(Hole Param(Alias:T Fn(Hole Param(Alias:T Hole))) Param:T(Alias:T Hole)))"},
		{"int (int ())", "Type(Base:int Fn(Hole Param(Base:int Fn(Hole))))"}, {"int (int (struct S))", "Type(Base:int Fn(Hole Param(Base:int Fn(Hole Param(Tag:S#1 Hole)))))"},
		{"int (int (x)[2])", "Type(Base:int Fn(Hole Param:x(Base:int Array(Hole 2))))"}, {"int (int (T[2]))", "Type(Base:int Fn(Hole Param(Base:int Fn(Hole Param(Alias:T Array(Hole 2))))))"},
	})
	reads(t, unitOf, nil, []sample{
		{"typedef int T; int (T);", "Unit(Decl#1(Base:int Var:T(Hole)) Decl(Base:int Var:T(Hole)))"},
		{"typedef int T; int ((T))(T);", "Unit(Decl#1(Base:int Var:T(Hole)) Decl(Base:int Var:T(Fn(Hole Param(Alias:T Hole)))))"},
	})
	stops(t, typeOf, []string{"T"}, "int (@x)", "int (*)(@x)", "int [2](@x)", "int (int)(@*)", "int (@,", "int (int,@)", "int (void @void)", "int (int (*)@x)", "int (int (x)@y)", "int @x", "int (*@x)", "int ([2]@*)", "int (int (@5))", "int (T @int)", "int (int (x@", "int (T T @T)", "int (@]")
	stops(t, unitOf, nil, "int (@)", "int (@int);", "int @[2];", "int *@;", "int (*@);", "int f(void @5);", "struct { int (@int); };")
}

// TestP6_1Strings puts strings behind each other.
func TestP6_1Strings(t *testing.T) {
	x, f := Expr("\"a\" \"\" /* */ \"b\\0\"\n\"\\x41\" [ 1 ]", nil)
	want := api.Tree{Kind: api.TrStr, Text: "ab\x00A", At: api.Spot{Line: 1, Col: 1}}
	if f != (api.Fault{}) || x.Kind != api.TrIndex || !equal(x.Sub[0], want) {
		t.Errorf("%v %v", x, f)
	}
	reads(t, exprOf, nil, []sample{{`"("`, "Str:("}, {`f("a" "b", "c")`, "Call:f(Str:ab Str:c)"}, {`"" ""`, "Str"}, {`a - "-" "int"`, "Bi:-(a Str:-int)"}})
	stops(t, exprOf, nil, `"a" @b`, `"a" @1`, `f @")"`, `a @"+" b`, `a ["x" "]"@`)
}

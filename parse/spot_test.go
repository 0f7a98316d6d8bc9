package parse

import (
	"testing"

	"mortise/api"
)

// TestP6_1AtExprs asks for the spots of expressions and initialisers.
func TestP6_1AtExprs(t *testing.T) {
	spots(t, exprOf, []string{"T"}, []sample{
		{" a + b * c", "Bi:+@3(a@1 Bi:*@7(b@5 c@9))"}, {"(a+b)*c", "Bi:*@5(Bi:+@2(a@1 b@3) c@6)"}, {"a,b", "Bi:,@1(a@0 b@2)"}, {"((a)) = (1)", "Set:=@6(a@2 1@9)"}, {"a <<= b", "Set:<<=@2(a@0 b@6)"},
		{"a ? b : c", "Cond@2(a@0 b@4 c@8)"}, {"-a", "Un:-@0(a@1)"}, {"( ++ a)", "Un:++@2(a@5)"}, {"(a)++", "Post:++@3(a@1)"}, {"a[ 1 ]", "Index@1(a@0 1@3)"}, {"(a) . b", "Member:b@4(a@1)"}, {"a -> b", "Arrow:b@2(a@0)"},
		{"f(a , b)", "Call:f@0(a@2 b@6)"}, {"( f )(a)", "Call:f@2(a@6)"}, {"(T)a", "Cast@0(Type@1(Alias:T@1 Hole) a@3)"}, {"((T)a)", "Cast@1(Type@2(Alias:T@2 Hole) a@4)"}, {"sizeof a", "SizeE@0(a@7)"}, {"sizeof (T)", "SizeT@0(Type@8(Alias:T@8 Hole))"},
		{"offsetof(T, a.b[ 1 ])", "Offset@0(Type@9(Alias:T@9 Hole) Dot:a@12 Dot:b@13 At@15(1@17))"}, {"(T) { 1 }", "Lit@0(Type@1(Alias:T@1 Hole) List@4(Item@6(1@6)))"}, {"sizeof (T){ 1 }.a", "SizeE@0(Member:a@15(Lit@7(Type@8(Alias:T@8 Hole) List@10(Item@12(1@12)))))"}, {"++(T){1}", "Un:++@0(Lit@2(Type@3(Alias:T@3 Hole) List@5(Item@6(1@6))))"},
		{"(T){ (1), .a [2] = (3), { 4 } }", "Lit@0(Type@1(Alias:T@1 Hole) List@3(Item@5(1@6) Item@10(Dot:a@10 At@13(2@14) 3@20) Item@24(List@24(Item@26(4@26)))))"},
		{"'a' \n", "Chr#97@0"}, {" \"a\" \"b\"", "Str:ab@1"}, {"\n\n 1", "1@3"}, {"/* */a//", "a@5"},
	})
}

// TestP6_1AtTypes asks for the spots of types.
func TestP6_1AtTypes(t *testing.T) {
	spots(t, typeOf, []string{"T"}, []sample{
		{" int unsigned * ( * ) [ 2 ]", "Type@1(Base:unsigned int@1 Ptr(Array(Ptr(Hole) 2@24)))"}, {"T", "Type@0(Alias:T@0 Hole)"}, {"struct S *", "Type@0(Tag:S#1@0 Ptr(Hole))"},
		{" struct S { int a , * b; T : 2, c : 3; }", "Type@1(Tag:S#1@1(Body@10(Fields@12(Base:int@12 Field:a@16(Hole) Field:b@22(Ptr(Hole))) Fields@25(Alias:T@25 Field@27(Hole 2@29) Field:c@32(Hole 3@36)))) Hole)"},
		{"struct { int a, : 2, (b); }", "Type@0(Tag#1@0(Body@7(Fields@9(Base:int@9 Field:a@13(Hole) Field@16(Hole 2@18) Field:b@22(Hole)))) Hole)"},
		{"enum { A , B = 1 }", "Type@0(Tag#3@0(Body@5(Enum:A@7 Enum:B@11(1@15))) Hole)"},
		{"int (int, int *, int x, int (*), T (y), int [1])", "Type@0(Base:int@0 Fn(Hole Param@8(Base:int@5 Hole) Param@14(Base:int@10 Ptr(Hole)) Param:x@21(Base:int@17 Hole) Param@28(Base:int@24 Ptr(Hole)) Param:y@36(Alias:T@33 Hole) Param@44(Base:int@40 Array(Hole 1@45))))"},
		{"int (int)", "Type@0(Base:int@0 Fn(Hole Param@8(Base:int@5 Hole)))"}, {"int (struct { int a; })", "Type@0(Base:int@0 Fn(Hole Param@22(Tag#1@5(Body@12(Fields@14(Base:int@14 Field:a@18(Hole)))) Hole)))"},
	})
}

// TestP6_1AtUnits asks for the spots of declarations and statements.
func TestP6_1AtUnits(t *testing.T) {
	spots(t, unitOf, nil, []sample{
		{"", "Unit@0"}, {" \n ", "Unit@3"}, {"// x", "Unit@4"}, {" int ;", "Unit@1(Decl@1(Base:int@1))"},
		{"static int a , * b = 1 ;", "Unit@0(Decl#2@0(Base:int@7 Var:a@11(Hole) Var:b@17(Ptr(Hole) 1@21)))"}, {"int static (a);", "Unit@0(Decl#2@0(Base:int@0 Var:a@12(Hole)))"},
		{"static int * f ( int a ) { }", "Unit@0(Func:f#2@13(Base:int@7 Fn(Ptr(Hole) Param:a@21(Base:int@17 Hole)) Block@25))"}, {"int a; int (f)() {}", "Unit@0(Decl@0(Base:int@0 Var:a@4(Hole)) Func:f@12(Base:int@7 Fn(Hole) Block@17))"},
		{"int f(){ ; { a; } (b) ; }", "Unit@0(Func:f@4(Base:int@0 Fn(Hole) Block@7(None@9 Block@11(Expr@13(a@13)) Expr@18(b@19))))"},
		{"int f(){ if (a) ; else b; while (a) ; do ; while (a); }", "Unit@0(Func:f@4(Base:int@0 Fn(Hole) Block@7(If@9(a@13 None@16 Expr@23(b@23)) While@26(a@33 None@36) Do@38(None@41 a@50))))"},
		{"int f(){ break ; continue ; return ; return a ; }", "Unit@0(Func:f@4(Base:int@0 Fn(Hole) Block@7(Break@9 Continue@17 Return@28 Return@37(a@44))))"},
		{"int f(){ for ( ; ; ) ; }", "Unit@0(Func:f@4(Base:int@0 Fn(Hole) Block@7(For@9(None@15 None@17 None@19 None@21))))"},
		{"int f(){ for ((a) ; b ; ) ; }", "Unit@0(Func:f@4(Base:int@0 Fn(Hole) Block@7(For@9(Expr@14(a@15) b@20 None@24 None@26))))"},
		{"int f(){ for (int a ; ; b) { } }", "Unit@0(Func:f@4(Base:int@0 Fn(Hole) Block@7(For@9(Decl@14(Base:int@14 Var:a@18(Hole)) None@22 b@24 Block@27))))"},
	})
}

// TestP6_1AtLines asks for lines and columns.
func TestP6_1AtLines(t *testing.T) {
	x, f := Unit("int a;\n  int\n\tb = \"x\";\n")
	b := x.Sub[1].Sub[1]
	if f != (api.Fault{}) || x.Sub[1].At != (api.Spot{Line: 2, Col: 3, Off: 9}) || b.At != (api.Spot{Line: 3, Col: 2, Off: 14}) || b.Sub[1].At != (api.Spot{Line: 3, Col: 6, Off: 18}) {
		t.Error(x, f)
	}
	refuses(t, unitOf, "int a\n\n ,;", nil, api.Fault{Code: api.ErrParse, At: api.Spot{Line: 3, Col: 3, Off: 9}})
	refuses(t, unitOf, "int a\n\n", nil, api.Fault{Code: api.ErrParse, At: api.Spot{Line: 3, Col: 1, Off: 7}})
	refuses(t, exprOf, "a\n @", nil, api.Fault{Code: api.ErrToken, At: api.Spot{Line: 2, Col: 2, Off: 3}})
}

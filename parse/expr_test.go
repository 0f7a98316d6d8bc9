package parse

import (
	"strings"
	"testing"
)

// TestP6_1Levels asks for each pair of signs which one holds more.
func TestP6_1Levels(t *testing.T) {
	rows := []string{"||", "&&", "|", "^", "&", "== !=", "< > <= >=", "<< >>", "+ -", "* / %"}
	for i, one := range rows {
		for j, other := range rows {
			for _, p := range strings.Fields(one) {
				for _, q := range strings.Fields(other) {
					want := "Bi:" + q + "(Bi:" + p + "(a b) c)"
					if j > i {
						want = "Bi:" + p + "(a Bi:" + q + "(b c))"
					}
					reads(t, exprOf, nil, []sample{{"a " + p + " b " + q + " c", want}})
					reads(t, exprOf, nil, []sample{{"a " + p + " ( b " + q + " c )", "Bi:" + p + "(a Bi:" + q + "(b c))"}})
				}
			}
		}
	}
	reads(t, exprOf, nil, []sample{
		{"a||b&&c|d^e&f==g<h<<i+j*k", "Bi:||(a Bi:&&(b Bi:|(c Bi:^(d Bi:&(e Bi:==(f Bi:<(g Bi:<<(h Bi:+(i Bi:*(j k))))))))))"},
		{"a*b+c<<d<e==f&g^h|i&&j||k", "Bi:||(Bi:&&(Bi:|(Bi:^(Bi:&(Bi:==(Bi:<(Bi:<<(Bi:+(Bi:*(a b) c) d) e) f) g) h) i) j) k)"},
		{"a-b-c-d", "Bi:-(Bi:-(Bi:-(a b) c) d)"}, {"a,b,c", "Bi:,(Bi:,(a b) c)"}, {"a,(b,c)", "Bi:,(a Bi:,(b c))"},
	})
}

// TestP6_1Sets reads assignments and conditionals.
func TestP6_1Sets(t *testing.T) {
	for _, s := range []string{"=", "*=", "/=", "%=", "+=", "-=", "<<=", ">>=", "&=", "^=", "|="} {
		reads(t, exprOf, nil, []sample{
			{"a " + s + " b", "Set:" + s + "(a b)"}, {"a " + s + " b = c", "Set:" + s + "(a Set:=(b c))"}, {"a , b " + s + " c , d", "Bi:,(Bi:,(a Set:" + s + "(b c)) d)"},
			{"a " + s + " b ? c : d", "Set:" + s + "(a Cond(b c d))"}, {"a ? b " + s + " c : d", "Cond(a Set:" + s + "(b c) d)"},
		})
		for _, left := range []string{"a+b", "a?b:c", "(int)a", "(int)(a)", "a||b", "(int)-a", "a * b"} {
			text := left + " "
			x, f := Expr(text+s+" c", nil)
			if f.Code != 60 || f.At.Off != len(text) {
				t.Errorf("%s%s c: %v %s", text, s, f, show(x, false))
			}
		}
		for left, want := range map[string]string{"(a+b)": "Bi:+(a b)", "-a": "Un:-(a)", "*(int)a": "Un:*(Cast(Type(Base:int Hole) a))", "++a": "Un:++(a)", "a++": "Post:++(a)", "sizeof a": "SizeE(a)", "sizeof(int)": "SizeT(Type(Base:int Hole))", "(int){1}": "Lit(Type(Base:int Hole) List(Item(1)))", "((int)a)": "Cast(Type(Base:int Hole) a)", "f()": "Call:f", "1": "1", "(a?b:c)": "Cond(a b c)", "a.b": "Member:b(a)"} {
			reads(t, exprOf, nil, []sample{{left + " " + s + " c", "Set:" + s + "(" + want + " c)"}})
		}
	}
	reads(t, exprOf, nil, []sample{
		{"a?b:c", "Cond(a b c)"}, {"a?b,c:d", "Cond(a Bi:,(b c) d)"}, {"a?b:c?d:e", "Cond(a b Cond(c d e))"}, {"a?b?c:d:e", "Cond(a Cond(b c d) e)"}, {"(a?b:c)?d:e", "Cond(Cond(a b c) d e)"}, {"a||b?c:d||e", "Cond(Bi:||(a b) c Bi:||(d e))"}, {"a?b:c,d", "Bi:,(Cond(a b c) d)"},
	})
	stops(t, exprOf, nil, "a?b:c @= d", "a?b @", "a?@:b", "a @:b", "a = @", "a = @= b", "a , @", "@, a", "a ? b : c @: d")
	stops(t, unitOf, nil, "enum { A = b @= 1 };", "enum { A = 1, @, };", "int a[b @= 1];", "int a[b @, c];", "struct { int a : b @= 1; };", "int a[] = { [b @= 1] = 2 };", "int a[] = { [1 @, 2] = 2 };", "enum { A = b ? c : d @= 1 };")
}

// TestP6_1Casts reads casts, literals, sizeof and what stands in parentheses.
func TestP6_1Casts(t *testing.T) {
	cast := func(x string) string { return "Cast(Type(Alias:T Hole) " + x + ")" }
	lit := "Lit(Type(Alias:T Hole) List(Item(1)))"
	reads(t, exprOf, []string{"T"}, []sample{
		{"(T)a", cast("a")}, {"(T)(T)a", cast(cast("a"))}, {"(T)-a", cast("Un:-(a)")}, {"-(T)a", "Un:-(" + cast("a") + ")"}, {"(T)a.b", cast("Member:b(a)")}, {"(T)a*b", "Bi:*(" + cast("a") + " b)"}, {"(T)(a)*b", "Bi:*(" + cast("a") + " b)"}, {"((T)a).b", "Member:b(" + cast("a") + ")"}, {"(T*)a", "Cast(Type(Alias:T Ptr(Hole)) a)"},
		{"(T){1}", lit}, {"(T){1}.b[2]", "Index(Member:b(" + lit + ") 2)"}, {"(T)(T){1}", cast(lit)}, {"-(T){1}++", "Un:-(Post:++(" + lit + "))"}, {"++(T){1}", "Un:++(" + lit + ")"}, {"(T){1}*a", "Bi:*(" + lit + " a)"}, {"((T){1})->b", "Arrow:b(" + lit + ")"},
		{"sizeof a", "SizeE(a)"}, {"sizeof(a)", "SizeE(a)"}, {"sizeof(a)+b", "Bi:+(SizeE(a) b)"}, {"sizeof(a).b", "SizeE(Member:b(a))"}, {"sizeof-a", "SizeE(Un:-(a))"}, {"sizeof sizeof a", "SizeE(SizeE(a))"}, {"sizeof((T)a)", "SizeE(" + cast("a") + ")"}, {"sizeof-(T)a", "SizeE(Un:-(" + cast("a") + "))"},
		{"sizeof(T)", "SizeT(Type(Alias:T Hole))"}, {"sizeof(T)*a", "Bi:*(SizeT(Type(Alias:T Hole)) a)"}, {"sizeof(T)-1", "Bi:-(SizeT(Type(Alias:T Hole)) 1)"}, {"sizeof(T[2])", "SizeT(Type(Alias:T Array(Hole 2)))"}, {"sizeof(T){1}", "SizeE(" + lit + ")"}, {"sizeof(T){1}.b", "SizeE(Member:b(" + lit + "))"}, {"sizeof sizeof(T)", "SizeE(SizeT(Type(Alias:T Hole)))"}, {"(T)sizeof(T)", cast("SizeT(Type(Alias:T Hole))")},
	})
	stops(t, exprOf, []string{"T"}, "(T)@", "(T)@)", "(T@", "(@", "(@)", "++(T)@a", "--(T)@(a)", "sizeof(T)@a", "sizeof(T)@(a)", "sizeof(T)@.b", "sizeof(T)@[1]", "sizeof(T)@++", "sizeof (T@", "sizeof(T){@", "(T){@}", "(T){1@", "@T", "a + @T", "(a @T)", "(T @a)", "f(@T)", "a.T @T")
}

// TestP6_1Calls reads what a postfix and a primary may be.
func TestP6_1Calls(t *testing.T) {
	reads(t, exprOf, []string{"T"}, []sample{
		{"a", "a"}, {"1", "1"}, {"'a'", "Chr#97"}, {"'\\377'", "Chr#-1"}, {"1l", "Int:long#1"}, {"1u", "Int:unsigned int#1"}, {"0xffffffffUL", "Int:unsigned long#4294967295"}, {"(a)", "a"}, {"((1))", "1"}, {"(a,b)", "Bi:,(a b)"},
		{"f()", "Call:f"}, {"f(a)", "Call:f(a)"}, {"f(a,b,c)", "Call:f(a b c)"}, {"f((a,b))", "Call:f(Bi:,(a b))"}, {"f(a=b,c?d:e)", "Call:f(Set:=(a b) Cond(c d e))"}, {"f(g(a))", "Call:f(Call:g(a))"},
		{"(f)(a)", "Call:f(a)"}, {"(f)()", "Call:f"}, {"(f)(a)[b]", "Index(Call:f(a) b)"}, {"-(f)(a)", "Un:-(Call:f(a))"}, {"sizeof(f)(a)", "SizeE(Call:f(a))"}, {"(T)(f)(a)", "Cast(Type(Alias:T Hole) Call:f(a))"}, {"((f)(a))", "Call:f(a)"}, {"(f)+(a)", "Bi:+(f a)"},
		{"a[b][c]", "Index(Index(a b) c)"}, {"a[b,c]", "Index(a Bi:,(b c))"}, {"a[b=c]", "Index(a Set:=(b c))"}, {"a.b.T", "Member:T(Member:b(a))"}, {"a->b->T", "Arrow:T(Arrow:b(a))"}, {"a++--", "Post:--(Post:++(a))"}, {"f(a).b->c[d]++", "Post:++(Index(Arrow:c(Member:b(Call:f(a))) d))"}, {"1[a]", "Index(1 a)"}, {"'a'++", "Post:++(Chr#97)"},
		{"+a", "Un:+(a)"}, {"-a", "Un:-(a)"}, {"~a", "Un:~(a)"}, {"!a", "Un:!(a)"}, {"*a", "Un:*(a)"}, {"&a", "Un:&(a)"}, {"++a", "Un:++(a)"}, {"--a", "Un:--(a)"}, {"- -a", "Un:-(Un:-(a))"}, {"++--a", "Un:++(Un:--(a))"}, {"-++a", "Un:-(Un:++(a))"}, {"*a++", "Un:*(Post:++(a))"}, {"&a[b]", "Un:&(Index(a b))"}, {"++-a", "Un:++(Un:-(a))"},
		{"offsetof(T,a)", "Offset(Type(Alias:T Hole) Dot:a)"}, {"offsetof(struct S,T.b[1?2:3].c)", "Offset(Type(Tag:S#1 Hole) Dot:T Dot:b At(Cond(1 2 3)) Dot:c)"}, {"offsetof(T*,a)[b]", "Index(Offset(Type(Alias:T Ptr(Hole)) Dot:a) b)"},
	})
	stops(t, exprOf, []string{"T"}, "1 @(2)", "f(a)@(b)", "a[b]@(c)", "(f)(a)@(b)", "((f))@(a)", "(f[1])@(a)", "(f,g)@(a)", "a.b@(c)", "\"a\"@(b)", "'a'@(b)", "(1)@(2)", "(-f)@(a)", "f(@,a)", "f(a,@)", "f(a @b)", "f(a@", "a[@]", "a[b@", "a[b@)", "a.@1", "a.@int", "a->@(", "a @b", "a @1", "1 @a", "@]", "a@)", "(a@]", "+@", "a+ @/", "offsetof @T", "offsetof(@a,b)", "offsetof(T@)", "offsetof(T,@1)", "offsetof(T,@.a)", "offsetof(T,a@=", "offsetof(T,a[@])", "offsetof(T,a.@[", "offsetof(T,a@,", "@else", "@;")
}

// TestP6_1Lists reads initialisers.
func TestP6_1Lists(t *testing.T) {
	reads(t, exprOf, []string{"T"}, []sample{
		{"(T){1,}", "Lit(Type(Alias:T Hole) List(Item(1)))"}, {"(T){a,b=c,{d}}", "Lit(Type(Alias:T Hole) List(Item(a) Item(Set:=(b c)) Item(List(Item(d)))))"},
		{"(T){.a=1,[2]=3,.T[4].b={5,},}", "Lit(Type(Alias:T Hole) List(Item(Dot:a 1) Item(At(2) 3) Item(Dot:T At(4) Dot:b List(Item(5)))))"},
		{"(T){(a,b)}", "Lit(Type(Alias:T Hole) List(Item(Bi:,(a b))))"}, {"(T){(T){1},[a?b:c]=(T)d}", "Lit(Type(Alias:T Hole) List(Item(Lit(Type(Alias:T Hole) List(Item(1)))) Item(At(Cond(a b c)) Cast(Type(Alias:T Hole) d))))"},
	})
	stops(t, exprOf, []string{"T"}, "(T){@}", "(T){@,}", "(T){1,@,}", "(T){1 @2}", "(T){.@1}", "(T){.a @1}", "(T){.a@,", "(T){[@]=1}", "(T){[1]@1", "(T){.a=@}", "(T){.a.b@}", "(T){.a=@.b}", "(T){1@;}", "(T){@=1}", "(T){{@}}")
	stops(t, unitOf, nil, "int a = @;", "int a = {@};", "int a = {1}@{", "int a = {1}@+", "int a @{1};", "int a = @,", "int a = b@]", "int a = {1} @= 2;")
}

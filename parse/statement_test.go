package parse

import (
	"strings"
	"testing"
)

// TestP6_1Statements reads each line of the statements.
func TestP6_1Statements(t *testing.T) {
	readsInBlock(t, []sample{
		{"", ""}, {";", "None"}, {"{}", "Block"}, {"{;}{}", "Block(None) Block"}, {"a;", "Expr(a)"}, {"a,b=c;", "Expr(Bi:,(a Set:=(b c)))"}, {"int a; a; T b; struct S; static U *c; b;", "Decl(Base:int Var:a(Hole)) Expr(a) Decl(Alias:T Var:b(Hole)) Decl(Tag:S#1) Decl#2(Alias:U Var:c(Ptr(Hole))) Expr(b)"},
		{"if(a);", "If(a None)"}, {"if(a,b);else;", "If(Bi:,(a b) None None)"}, {"if(a)if(b);else;", "If(a If(b None None))"}, {"if(a)if(b);else;else;", "If(a If(b None None) None)"}, {"if(a){if(b);}else;", "If(a Block(If(b None)) None)"}, {"if(a);else if(b);else;", "If(a None If(b None None))"}, {"if(a)while(b)if(c);else;", "If(a While(b If(c None None)))"}, {"if(a)for(;;)if(b);else;else;", "If(a For(None None None If(b None None)) None)"}, {"if(a)do if(b);else;while(c);else;", "If(a Do(If(b None None) c) None)"},
		{"while(a)b;", "While(a Expr(b))"}, {"while(a,b){}", "While(Bi:,(a b) Block)"}, {"do;while(a);", "Do(None a)"}, {"do{}while(a=b);", "Do(Block Set:=(a b))"}, {"do while(a);while(b);", "Do(While(a None) b)"},
		{"for(;;);", "For(None None None None)"}, {"for(a;b;c)d;", "For(Expr(a) b c Expr(d))"}, {"for(a,b;c,d;e,g){}", "For(Expr(Bi:,(a b)) Bi:,(c d) Bi:,(e g) Block)"}, {"for(int a=0,b;a;)break;", "For(Decl(Base:int Var:a(Hole 0) Var:b(Hole)) a None Break)"}, {"for(static T a;;b)continue;", "For(Decl#2(Alias:T Var:a(Hole)) None b Continue)"}, {"for(int;;);", "For(Decl(Base:int) None None None)"}, {"for(T;;);", "For(Decl(Alias:T) None None None)"}, {"for(;a;);", "For(None a None None)"},
		{"break;continue;return;", "Break Continue Return"}, {"return a,b;", "Return(Bi:,(a b))"}, {"T;", "Decl(Alias:T)"}, {"T(a);", "Decl(Alias:T Var:a(Hole))"}, {"a*b;", "Expr(Bi:*(a b))"}, {"T*b;", "Decl(Alias:T Var:b(Ptr(Hole)))"}, {"(T)*b;", "Expr(Cast(Type(Alias:T Hole) Un:*(b)))"}, {"sizeof(T);", "Expr(SizeT(Type(Alias:T Hole)))"},
	})
	for _, s := range []string{
		"a@", "a @b;", "if @a", "if(@)", "if(a@;", "if(a)@", "if(a);else @", "if(a)@int b;", "if(a)@T b;", "if(a)@static int b;", "if(a);else @T;", "@else;", "if(a){}else{}@else", "while(@)", "while @a", "while(a)@", "while(a)@T b;",
		"do @", "do;@a", "do;@", "do;while @a", "do;while(a)@", "do;while(a)@a", "do @int a;", "for @a", "for(@)", "for(a@)", "for(a;b@)", "for(a;b;c@;", "for(;;)@", "for(;;@", "for(int a@)", "for(int a;@int b;", "for(;;)@T a;", "for(T @+ 1;;);", "for(int g(void) @{", "for(int g(void)@)",
		"break @a;", "break@", "continue @1;", "return @", "return a@", "return @int;", "return @T;", "@)", "@]", "@,", "T @+ 1;", "T @= 1;", "T @. a;", "int a @int b;", "int g(void) @{", "int a@", "@=", "@:", "a@:", "@? a",
	} {
		stopsInBlock(t, s)
	}
}

// stopsInBlock asks for ErrParse at the mark of a text in a function's block, which ends right behind it.
func stopsInBlock(t *testing.T, marked string) {
	t.Helper()
	stops(t, unitOf, nil, strings.TrimSuffix(inBlock(marked), " }")+"}")
}

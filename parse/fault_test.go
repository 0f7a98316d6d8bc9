package parse

import (
	"strings"
	"testing"

	"mortise/api"
	"mortise/token"
)

func TestP6_2Examples(t *testing.T) {
	stops(t, exprOf, nil, "a + b @= c", "1 @(2)", "@", "a @b")
	stops(t, unitOf, nil, "int unsigned @char", "int x @{", "int f(int) , g(void) @{ }", "struct S { @} ;")
	stops(t, typeOf, nil, "@", "int unsigned @char", "int @x", "int @;")
	stops(t, unitOf, nil, "@;", "@1", "@{", "@x", "@(", "int f(void) { } @;", "int x; @}", "@return;", "int@", "int x@", "int x,@;", "int x @y;", "int x = 1 @2;", "int x @1;", "int x; @*y;")
}

// TestP6_2Functions asks which declarators a block may stand behind.
func TestP6_2Functions(t *testing.T) {
	for _, s := range []string{"int f(void) {}", "int (f)(void) {}", "int ((f)(int a)) {}", "int *f(void) {}", "int (*f(void))(int) {}", "int (*f())[2] {}", "static int f() {}", "int static f() {}", "int f()() {}", "struct { int a; } f() {}"} {
		if _, f := Unit(s); f != (api.Fault{}) {
			t.Errorf("%q: %v", s, f)
		}
	}
	stops(t, unitOf, nil, "int f @{}", "int (*f)(void) @{}", "int f[2](void) @{}", "int *f @{}", "int f[2] @{}", "typedef int f(void) @{}", "int typedef f(void) @{}", "int f(void) = 1 @{}", "int f(void), g(void) @{}", "int g, f(void) @{}", "int (*(f))(void) @{}", "int @{}", "int f(void) {} @{}")
	stops(t, unitOf, nil, "struct S f(void) { int g(void) @{ } }", "int f(void) @int a; { }", "int f(@a, b) { }")
}

// faulty are texts with a fault of each of Scan's kinds but ErrText and ErrMany.
var faulty = map[api.Errno][]string{
	api.ErrToken: {"@", "\\", "#", "\x00", "\xff", "`", "$"}, api.ErrNumber: {"08", "1x", "2147483648", "0x", "1ull"}, api.ErrWord: {strings.Repeat("n", api.MaxName+1)},
	api.ErrComment: {"/*", "/* x", "/*/"}, api.ErrQuote: {"'", "\"", "''", "'ab'", "\"\\400\"", "\"\n\"", "\"\\x\""},
}

// TestP6_2Scan puts a fault of Scan ahead of and behind the first token with which nothing goes on.
func TestP6_2Scan(t *testing.T) {
	for code, l := range faulty {
		for _, bad := range l {
			for call, ahead := range map[string][]string{
				"Expr": {"", "a", "a +", "(a", "(", "f(a,", "sizeof (int)", "a ? b", "-", "(int) {", "\"x\""},
				"Type": {"", "int", "int (", "struct", "struct {", "struct { int", "int (void", "int (*", "enum { A ="},
				"Unit": {"", "int", "int x", "int x;", "int f(void)", "int f(void) {", "int f(void) { if (1)", "int f(void) { if (1) ;", "typedef int T; T", "int x = {", "static", "int f(void) { }", "int f(void"},
			} {
				for _, s := range ahead {
					text := s + " " + bad
					at := token.At(text, len(s)+1)
					refuses(t, faces[call], text, nil, api.Fault{Code: code, At: at})
					refuses(t, faces[call], text+"\n ) } ] 1 2", nil, api.Fault{Code: code, At: at})
					refuses(t, faces[call], text+"\n @", nil, api.Fault{Code: code, At: at})
				}
			}
			for call, marked := range map[string][]string{
				"Expr": {"a @b", "a + @)", "(a @; ", "1 @(", "a + b @= c", "@int"}, "Type": {"@x", "int @int", "int (@1", "struct { @}"}, "Unit": {"@x", "int x @y", "int f(void) { } @}", "int x @{", "int f(void) { return @int"},
			} {
				for _, m := range marked {
					stops(t, faces[call], nil, m+" "+strings.ReplaceAll(bad, "@", "$"))
				}
			}
		}
	}
}

// TestP6_2Text hands in texts that are too long: ErrText is ahead of all other faults.
func TestP6_2Text(t *testing.T) {
	blanks := strings.Repeat(" ", api.MaxText)
	for _, name := range faceNames {
		for _, s := range []string{"", ")", "@", "int x", "a b", "/*"} {
			refuses(t, faces[name], (s + blanks + ".")[:api.MaxText+1], nil, api.Fault{Code: api.ErrText})
		}
	}
	reads(t, unitOf, nil, []sample{{"int x;" + blanks[6:], "Unit(Decl(Base:int Var:x(Hole)))"}, {blanks, "Unit"}})
	reads(t, exprOf, nil, []sample{{blanks[1:] + "x", "x"}})
	reads(t, typeOf, nil, []sample{{blanks[3:] + "int", "Type(Base:int Hole)"}})
}

// TestP6_2Many hands in texts of as many tokens as may be, and of one more.
func TestP6_2Many(t *testing.T) {
	for _, c := range []struct{ name, ahead, often, behind string }{
		{"Unit", "", "int ; ", ""}, {"Unit", "int a = { ", "1 , ", "2 } ;"}, {"Expr", "f ( ", "a , ", "b )"}, {"Expr", "a [ ", "- ", "b ]"}, {"Type", "int ( ", "int , ", "int )"}, {"Type", "int ", "* ", "[ ]"},
	} {
		count := func(s string) int { return len(strings.Fields(s)) }
		n := (api.MaxTokens - count(c.ahead) - count(c.behind)) / count(c.often)
		text := c.ahead + strings.Repeat(c.often, n) + c.behind
		l := scanned(t, text)
		if _, f := faces[c.name](text); len(l)-1 > api.MaxTokens || f != (api.Fault{}) && f != (api.Fault{Code: api.ErrNest}) {
			t.Errorf("%s of %d tokens %.50q..: %v", c.name, len(l)-1, text, f)
		}
		long := c.ahead + strings.Repeat(c.often, n+5)
		off := 0
		for range api.MaxTokens {
			off += strings.Index(long[off:], " ") + 1
		}
		refuses(t, faces[c.name], long+c.behind, nil, api.Fault{Code: api.ErrMany, At: token.At(long, off)})
		refuses(t, faces[c.name], long+"@", nil, api.Fault{Code: api.ErrMany, At: token.At(long, off)})
		stuck := strings.Repeat(" ", len(c.ahead)) + "@] " + strings.Repeat(c.often, n+2)
		stops(t, faces[c.name], nil, stuck)
	}
}

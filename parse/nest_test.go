package parse

import (
	"strings"
	"testing"

	"mortise/api"
	"mortise/tree"
)

// tower is a text that has an inner text within n times ahead and behind; where n is not 0, it has base and step times n levels.
type tower struct {
	name, begin, ahead, inner, behind, end string
	base, step                             int
}

// towers are of expressions, declarators, statements, lists and types.
var towers = []tower{
	{"Expr", "", "- ", "a", "", "", 1, 1}, {"Expr", "", "++", "a", "", "", 1, 1}, {"Expr", "", "", "a", "++", "", 1, 1}, {"Expr", "", "", "a", "+b", "", 1, 1}, {"Expr", "", "b*(", "a", ")", "", 1, 1}, {"Expr", "", "b=", "a", "", "", 1, 1}, {"Expr", "", "", "a", ",b", "", 1, 1}, {"Expr", "", "b?c:", "a", "", "", 1, 1}, {"Expr", "", "b?", "a", ":c", "", 1, 1}, {"Expr", "", "f(", "a", ")", "", 1, 1}, {"Expr", "", "", "a", "[b]", "", 1, 1}, {"Expr", "", "b[", "a", "]", "", 1, 1}, {"Expr", "", "", "a", ".b", "", 1, 1}, {"Expr", "", "", "a", "->b", "", 1, 1}, {"Expr", "", "sizeof ", "a", "", "", 1, 1},
	{"Expr", "(", "-(((", "a", ")))", ")", 1, 1}, {"Expr", "", "(int*)", "a", "", "", 3, 1}, {"Expr", "", "b?c:", "(int*)a", "", "", 4, 1}, {"Expr", "", "(int){", "1", "}", "", 1, 3}, {"Expr", "-", "(int){", "1", "}", "", 2, 3}, {"Expr", "", "sizeof(int[", "1", "])", "", 1, 3}, {"Expr", "", "offsetof(int,a[", "1", "])", "", 1, 2},
	{"Type", "int ", "*", "", "", "", 2, 1}, {"Type", "int ", "", "", "[]", "", 2, 1}, {"Type", "int ", "", "", "(void)", "", 2, 1}, {"Type", "int", "(*", "", ")", "", 2, 1}, {"Type", "int", "(*", "", ")[]", "", 2, 2}, {"Type", "int", "(int", "", ")", "", 2, 2}, {"Type", "", "struct { ", "int", " a; }", "", 3, 3}, {"Type", "int[", "- ", "1", "", "]", 3, 1},
	{"Unit", "int f(void){", "{", "", "}", "}", 3, 1}, {"Unit", "int f(void){", "if(1)", ";", "", "}", 4, 1}, {"Unit", "int f(void){", "if(1);else ", ";", "", "}", 4, 1}, {"Unit", "int f(void){", "while(1)", ";", "", "}", 4, 1}, {"Unit", "int f(void){", "do ", ";", "while(1);", "}", 4, 1}, {"Unit", "int f(void){", "for(;;)", ";", "", "}", 4, 1}, {"Unit", "int f(void){", "{int a;", "", "}", "}", 6, 1},
	{"Unit", "int x=", "{", "1", "}", ";", 4, 2}, {"Unit", "int x={", "{", "-1", "}", "};", 7, 2}, {"Unit", "int x=", "{.a=", "1", "}", ";", 4, 2}, {"Unit", "int ", "*", "x", "", ";", 4, 1}, {"Unit", "int ", "(*", "x", ")", ";", 4, 1}, {"Unit", "int ", "", "x", "[]", ";", 4, 1}, {"Unit", "", "struct{", "int", " x;}", ";", 4, 3}, {"Unit", "int f(", "int(*)(", "", ")", ");", 5, 3}, {"Unit", "int x=", "- ", "1", "", ";", 4, 1},
}

// text is a tower of n.
func (w tower) text(n int) string {
	return w.begin + strings.Repeat(w.ahead, n) + w.inner + strings.Repeat(w.behind, n) + w.end
}

// TestP6_2Nest builds towers of as many levels as may be, and of more.
func TestP6_2Nest(t *testing.T) {
	for _, w := range towers {
		most := (api.MaxNest - w.base) / w.step
		for _, n := range []int{0, 1, 2, most - 1, most} {
			x, f := faces[w.name](w.text(n))
			if f != (api.Fault{}) || tree.Deep(x) != w.base+n*w.step && n > 0 {
				t.Errorf("%s of %.80q.., %d times: %v, %d levels, want %d", w.name, w.text(n), n, f, tree.Deep(x), w.base+n*w.step)
			}
		}
		for _, n := range []int{most + 1, most + 2, 2 * most, 1000} {
			refuses(t, faces[w.name], w.text(n), nil, api.Fault{Code: api.ErrNest})
		}
	}
}

// TestP6_2NestLast asks that ErrNest is behind all other faults, and that parentheses are no levels.
func TestP6_2NestLast(t *testing.T) {
	deep := strings.Repeat("- ", api.MaxNest)
	refuses(t, exprOf, deep+"a", nil, api.Fault{Code: api.ErrNest})
	stops(t, exprOf, nil, deep+"a @b", deep+"@", deep+"a + @)")
	refuses(t, exprOf, deep+"a @", nil, api.Fault{Code: api.ErrToken, At: api.Spot{Line: 1, Col: len(deep) + 3, Off: len(deep) + 2}})
	refuses(t, exprOf, deep+"/*", nil, api.Fault{Code: api.ErrComment, At: api.Spot{Line: 1, Col: len(deep) + 1, Off: len(deep)}})
	refuses(t, unitOf, "int x = "+deep+"a; int y @", nil, api.Fault{Code: api.ErrToken, At: api.Spot{Line: 1, Col: len(deep) + 18, Off: len(deep) + 17}})
	stops(t, unitOf, nil, "int x = "+deep+"a; int y @{")
	const n = 8000
	closed := func(s string) string { return strings.Repeat("(", n) + s + strings.Repeat(")", n) }
	reads(t, exprOf, nil, []sample{{closed("a"), "a"}, {closed("a") + "+b", "Bi:+(a b)"}})
	reads(t, unitOf, nil, []sample{{"int " + closed("x") + ";", "Unit(Decl(Base:int Var:x(Hole)))"}, {"int f(int " + closed("x") + ");", "Unit(Decl(Base:int Var:f(Fn(Hole Param:x(Base:int Hole)))))"}})
	reads(t, typeOf, nil, []sample{{"int " + closed("*"), "Type(Base:int Ptr(Hole))"}})
	reads(t, exprOf, nil, []sample{{"f(" + strings.Repeat("a,", 5000) + "a)", "Call:f(" + strings.Repeat("a ", 5000) + "a)"}, {strings.Repeat("\"\"", 9000), "Str"}})
}

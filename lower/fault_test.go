package lower

import (
	"math/rand"
	"reflect"
	"slices"
	"strings"
	"testing"

	"mortise/api"
	"mortise/check"
	"mortise/tac"
)

// faulty asks that a text gets a fault, and nothing besides.
func faulty(t testing.TB, text string, want api.Fault) {
	t.Helper()
	p, f := Text(text)
	if f != want || !reflect.DeepEqual(p, api.TacProg{}) {
		t.Errorf("%.300q: fault %v, want %v; %.200v", text, f, want, p)
	}
}

// TestP15_1Fault: a text that layer 10 refuses gets its fault, of each layer below it.
func TestP15_1Fault(t *testing.T) {
	seen := map[api.Errno]int{}
	for _, text := range []string{
		"", " ", "int x;", "int main(int a) { }", "void main(void) { }", "int f(void); int main(void) { return 0; }", // ErrMain, ErrDeclare
		"@", "int main(void) { return 08; }", "int main(void) { return 'ab'; }", "/* x", "\"abc", strings.Repeat("a", 64) + ";",
		"int main(void) { return 1 }", "int main(void { }", "int main(void) { a + b = c; }", "}",
		"int main(void) { int x; x = y; }", "int main(void) { f(); }", "int main(void) { goto x; }",
		"int x; int x;", "struct S { int a; }; struct S { int a; }; int main(void) { return 0; }",
		"int main(void) { 1 = 2; }", "int main(void) { &1; }", "int a[2]; int main(void) { a = 0; }",
		"int *p; int main(void) { return p * 2; }", "struct S { int a; } s; int main(void) { return s; }", "int main(void) { if ((void) 0) ; }",
		"int f(int a) { return a; } int main(void) { return f(); }", "int f(int *a) { return *a; } int main(void) { return f(1); }",
		"int x; int y = x; int main(void) { return 0; }", "int f(void) { return 1; } int x = f(); int main(void) { return 0; }",
		"int main(void) { break; }", "int main(void) { continue; }", "int main(void) { return; }", "void f(void) { return 1; } int main(void) { return 0; }",
		"struct S s; int main(void) { return 0; }", "int a[16384][2]; int main(void) { return 0; }", "struct { int a : 33; } s; int main(void) { return 0; }",
		"int a[1 / 0]; int main(void) { return 0; }", "int a[2] = { 1, 2, 3 }; int main(void) { return 0; }", "int a[0]; int main(void) { return 0; }",
		"int f(int a, int b, int c, int d, int e, int f, int g, int h) { return a; } int main(void) { return 0; }",
		"int main(void) { return " + strings.Repeat("(-", 300) + "1" + strings.Repeat(")", 300) + "; }",
		strings.Repeat(" ", api.MaxText+1), strings.Repeat(";", api.MaxTokens+1),
		"int main(void) { switch (1) { case 1: default: ; } }",
	} {
		_, f := check.Text(text)
		if f.Code == api.OK {
			t.Errorf("%.200q has a program", text)
		}
		seen[f.Code]++
		faulty(t, text, f)
	}
	for _, code := range []api.Errno{api.ErrMain, api.ErrDeclare, api.ErrToken, api.ErrNumber, api.ErrQuote, api.ErrComment, api.ErrWord, api.ErrParse, api.ErrName, api.ErrTwice, api.ErrLvalue, api.ErrOperand, api.ErrCall, api.ErrConst, api.ErrLoop, api.ErrReturn, api.ErrIncomplete, api.ErrLarge, api.ErrZero, api.ErrInit, api.ErrTooLarge, api.ErrNest, api.ErrText} {
		if seen[code] == 0 {
			t.Errorf("no text has the fault %d", code)
		}
	}
}

// turned is a text in which a word is another one, is left out, or has one behind it.
func (g *grower) turned(text string) string {
	signs := strings.Fields("+ - * & | ^ == != < > <= >= && || = += ++ -- ! ~ , ; ( ) [ ] { } . -> ? :")
	names := strings.Fields("x1 x2 x3 gs ga gi g0 gp gq gu n s v p 0 1 3u 'a' int struct S char return else while")
	l := strings.Fields(text)
	i := g.Intn(len(l))
	like := names
	if slices.Contains(signs, l[i]) {
		like = signs
	}
	switch g.Intn(4) {
	case 0:
		l[i] = ""
	case 1:
		l[i] += " " + g.pick(like...)
	default:
		l[i] = g.pick(like...)
	}
	return strings.Join(l, " ")
}

// TestP15_1Turned: of grown texts with something turned in them those that layer 10 refuses get its fault, and the others have code.
func TestP15_1Turned(t *testing.T) {
	g := &grower{Rand: rand.New(rand.NewSource(15))}
	good, bad := 0, 0
	for i := range 500 {
		g.wild = []int{0, 20}[i%2]
		text := g.turned(g.unit())
		if _, f := check.Text(text); f != (api.Fault{}) {
			bad++
			faulty(t, text, f)
		} else {
			good++
			agrees(t, text, "ab", grownFuel)
		}
	}
	if good < 30 || bad < 200 {
		t.Errorf("%d turned texts have programs, %d have none: too few", good, bad)
	}
}

// filled is a text of just so many tokens: pieces of main's block, one after the other and again, and behind them signs that say nothing.
func filled(t testing.TB, ahead string, tokens int, pieces ...string) string {
	t.Helper()
	left := tokens - tokensOf(t, inMain(ahead, "return 0;"))
	var body strings.Builder
	for i := 0; ; i++ {
		piece := pieces[i%len(pieces)]
		n := tokensOf(t, piece)
		if n > left {
			break
		}
		left -= n
		body.WriteString(piece + " ")
	}
	text := inMain(ahead, body.String()+strings.Repeat("; ", left)+"return 0;")
	if n := tokensOf(t, text); n != tokens {
		t.Fatalf("%d tokens, want %d", n, tokens)
	}
	return text
}

// TestP15_1Tokens: texts of 1000 tokens have code, whatever they are made of; those of one more, too.
func TestP15_1Tokens(t *testing.T) {
	const ahead = "struct B { int a : 1; int f : 30; unsigned g : 1; unsigned h : 31; } b, *p = &b; struct S { char c[3]; } s, *q = &s; struct L { char z[16384]; } l; int x, *r = &x; " +
		"int f(struct S a, struct S b, int n) { return n; } struct S h(struct S a) { return a; } int k(struct L a) { return 1; } "
	for _, pieces := range [][]string{
		{"x++;"}, {"b.f++;"}, {"p->f++, p->h--;"}, {"x = b.f = b.h = x;"}, {"p->f %= p->h | 1;"}, {"*q = *q;"}, {"s = h(h(s));"}, {"x = f(s, h(s), x) + f(*q, s, x++);"},
		{"if (x) x = 1; else x--;"}, {"while (x) x--;"}, {"{ int y = 1; x += y; }", "{ struct B y = { 1, x, 1, x }; }"}, {"{ int y[16] = { 1 }; }"}, {"x = (x, (x ? *r : -x)) && !x || x > 3;"},
		{"q = &(struct S) { 1 };"}, {"x = k(l);"}, {"x ? h(s) : s;"}, {"for (;x < 3;x++) ;"}, {"r = r + 1 - 1;"}, {"{ struct L y = l; y.z[3] = 1; }"}, {"x = h(s).c[1];"}, {"putchar(getchar());"},
	} {
		for _, n := range []int{1000, 1001} {
			tokens := filled(t, ahead, n, pieces...)
			if _, f := check.Text(tokens); f.Code == api.ErrTooLarge {
				tokens = filled(t, ahead, n, append(pieces, strings.Repeat("x++; ", 3))...) // not more locals than a function may have
			}
			agrees(t, tokens, "abc", enough)
		}
	}
}

// TestP15_1Long: long texts have code, as long as layer 13 takes it; no more than that is answered.
func TestP15_1Long(t *testing.T) {
	for _, piece := range []string{"x++;", "b.f++;", "putchar(1);", "*p = b;", "y++;", "l.f = y;"} {
		text := func(n int) string {
			return inMain("int x; struct B { int a : 3, f : 30; } b, *p = &b;", "int y = 1; struct B l = { 1 }; "+strings.Repeat(piece, n)+"return y;")
		}
		few, many := 1, api.MaxTokens/tokensOf(t, piece)-20
		if _, f := check.Text(text(many)); f != (api.Fault{}) {
			t.Fatalf("%v", f)
		}
		for few+1 < many {
			n := (few + many) / 2
			if _, f := Text(text(n)); f == (api.Fault{}) {
				few = n
			} else {
				faulty(t, text(n), api.Fault{Code: api.ErrLower})
				many = n
			}
		}
		p := codeOf(t, text(few))
		one := len(codeOf(t, text(2)).Funcs[0].Code) - len(codeOf(t, text(1)).Funcs[0].Code)
		if n := len(p.Funcs[0].Code); few+1 < api.MaxTokens/tokensOf(t, piece)-20 && n+one <= api.MaxCode {
			t.Errorf("%d times %s: %d instructions, and one time more is refused", few, piece, n)
		}
		agrees(t, text(few), "", api.MaxFuel)
	}
}

// TestP15_1Refused: what is refused is just what layer 13 would not take.
func TestP15_1Refused(t *testing.T) {
	text := inMain("int x;", strings.Repeat("x++;", 4000)+"return 0;")
	faulty(t, text, api.Fault{Code: api.ErrLower})
	p := lowered(programOf(t, text))
	if tac.Check(p) != api.ErrTac || len(p.Funcs[0].Code) <= api.MaxCode {
		t.Errorf("layer 13 takes %d instructions", len(p.Funcs[0].Code))
	}
}

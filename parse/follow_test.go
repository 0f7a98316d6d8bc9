package parse

import (
	"math/rand"
	"slices"
	"strings"
	"testing"

	"mortise/api"
	"mortise/token"
	"mortise/tree"
)

// TestP6_3Printed prints grown trees, and reads them again.
func TestP6_3Printed(t *testing.T) {
	g := grower{rand.New(rand.NewSource(3))}
	for _, name := range faceNames {
		read := 0
		for range 2500 {
			x := g.of(name, g.Intn(7))
			text, err := tree.Print(x)
			l, _ := tree.Tokens(x)
			if err != api.OK || len(text) > api.MaxText || len(l) > api.MaxTokens {
				continue
			}
			read++
			y, f := faces[name](text, aliasesOf...)
			if f != (api.Fault{}) || !tree.Same(x, y) {
				t.Fatalf("%s of %q: %v\n got %s\nwant %s", name, text, f, show(y, false), show(x, false))
			}
			right(t, faces[name], aliasesOf, y)
		}
		if read < 2000 {
			t.Errorf("%s: just %d texts", name, read)
		}
	}
}

// TestP6_3Samples reads texts that are written otherwise than Print does, prints them and reads them again.
func TestP6_3Samples(t *testing.T) {
	for text, want := range map[string]string{
		"int static(a)[2],(*(b)),c=(1);":                  "static int a [ 2 ] , * b , c = 1 ;",
		"int f(){}":                                       "int f ( void ) { }",
		"int f(int(x),int(*)(void),void);":                "int f ( int x , int ( * ) ( void ) , void ) ;",
		"typedef int T;T static(x);":                      "typedef int T ; static T x ;",
		"typedef int T;int f(int((T)));":                  "typedef int T ; int f ( int ( T ) ) ;",
		"signed x;long int y;int unsigned z;":             "int x ; long y ; unsigned int z ;",
		"enum{A,};struct{int:3,a;};":                      "enum { A } ; struct { int : 3 , a ; } ;",
		"int x={1,{2,},.a=(3),};":                         "int x = { 1 , { 2 } , . a = 3 } ;",
		"int x=(f)(1)+\"a\"\"b\"[(0x1f)];":                "int x = f ( 1 ) + \"ab\" [ 31 ] ;",
		"int f(void){if(a)if(b);else;}":                   "int f ( void ) { if ( a ) if ( b ) ; else ; }",
		"int f(void){for(;;);do;while((a));return((a));}": "int f ( void ) { for ( ; ; ) ; do ; while ( a ) ; return a ; }",
		"int x=(((a)+(b))*(c)),y=(a=b),z=a?(b,c):(d=e);":  "int x = ( a + b ) * c , y = a = b , z = a ? b , c : ( d = e ) ;",
		"int x=sizeof((int)a),y=sizeof(int)-1,z=-(-a);":   "int x = sizeof ( ( int ) a ) , y = sizeof ( int ) - 1 , z = - - a ;",
		"int(*(*f(int a))(void))[3]{}":                    "int ( * ( * f ( int a ) ) ( void ) ) [ 3 ] { }",
	} {
		x, f := Unit(text)
		got, err := tree.Print(x)
		if f != (api.Fault{}) || err != api.OK || got != want {
			t.Errorf("%q: %v\n got %q, %d\nwant %q", text, f, got, err, want)
		}
		right(t, unitOf, nil, x)
	}
}

// TestP6_3Blanks puts blanks and comments between tokens: they turn nothing but spots, which stay at the same tokens.
func TestP6_3Blanks(t *testing.T) {
	r := rand.New(rand.NewSource(4))
	for _, name := range faceNames {
		for _, s := range texts[name] {
			s = whole(name, s)
			want, f := faces[name](s, aliasesOf...)
			for range 20 {
				wide, moved := widen(t, r, s)
				got, g := faces[name](wide, aliasesOf...)
				move(&got, moved)
				if !equal(got, want) || f.Code != g.Code || f.Code != api.OK && moved[g.At.Off] != f.At {
					t.Errorf("%s of %q: %v, of %q: %v", name, s, f, wide, g)
				}
			}
		}
	}
}

// widen puts blanks and comments between a text's tokens; moved tells for the bytes of the tokens which spots they had.
func widen(t *testing.T, r *rand.Rand, s string) (wide string, moved map[int]api.Spot) {
	l := scanned(t, s)
	moved = map[int]api.Spot{}
	for i, x := range l {
		wide += pick(r, " ", "\n", "\t \v\f\r", " /* * / } */ ", " // ; /*\n")
		moved[len(wide)] = x.At
		if i+1 < len(l) {
			wide += strings.TrimSpace(s[x.At.Off:l[i+1].At.Off])
		}
	}
	return wide, moved
}

// move puts spots back to where they were.
func move(x *api.Tree, moved map[int]api.Spot) {
	if x.At != (api.Spot{}) {
		x.At = moved[x.At.Off]
	}
	for i := range x.Sub {
		move(&x.Sub[i], moved)
	}
}

// TestP6_3Own asks that answers share no memory, and that calls know nothing of one another.
func TestP6_3Own(t *testing.T) {
	const text = "typedef int T, a; T *x[2] = {1, .a = 2}, y; int f(T b, int) { for (;;) b * c; return (T)b; }"
	one, _ := Unit(text)
	want := show(one, true)
	spoil(one)
	if other, f := Unit(text); f != (api.Fault{}) || show(other, true) != want {
		t.Errorf("the second call: %v", f)
	}
	stops(t, exprOf, nil, "(a) @x")
	reads(t, exprOf, []string{"a"}, []sample{{"(a) x", "Cast(Type(Alias:a Hole) x)"}})
	stops(t, exprOf, nil, "(a) @x")
	x, _ := Unit(text)
	var lists [][]api.Tree
	gather(x, &lists)
	for i, l := range lists {
		for _, m := range lists[:i] {
			if &l[:cap(l)][cap(l)-1] == &m[:cap(m)][cap(m)-1] {
				t.Errorf("two lists share memory")
			}
		}
	}
}

// spoil turns all nodes of a tree.
func spoil(x api.Tree) {
	for i := range x.Sub {
		spoil(x.Sub[i])
		x.Sub[i] = api.Tree{Kind: -1}
	}
}

// gather gathers all lists of parts.
func gather(x api.Tree, lists *[][]api.Tree) {
	if len(x.Sub) > 0 {
		*lists = append(*lists, x.Sub)
	}
	for _, s := range x.Sub {
		gather(s, lists)
	}
}

// TestP6_2Any hands in texts of any bytes and of any tokens: each has one answer, and what is read is right.
func TestP6_2Any(t *testing.T) {
	r := rand.New(rand.NewSource(5))
	others := vocabulary(t)
	codes := []api.Errno{api.ErrToken, api.ErrNumber, api.ErrWord, api.ErrComment, api.ErrQuote, api.ErrParse}
	for i := range 9000 {
		b := make([]byte, r.Intn(30))
		r.Read(b)
		text := string(b)
		if i%3 == 1 {
			const signs = "(){}[];,:?*&+-=.\"'/ \nabT01intx"
			for j := range b {
				b[j] = signs[int(b[j])%len(signs)]
			}
			text = string(b)
		} else if i%3 == 2 {
			var l []api.Token
			for range r.Intn(12) {
				l = append(l, pick(r, others...))
			}
			text = written(t, l)
		}
		for _, name := range faceNames {
			x, f := faces[name](text, aliasesOf...)
			again, g := faces[name](text, aliasesOf...)
			if f != g || !equal(x, again) {
				t.Fatalf("%s of %q answers twice", name, text)
			}
			if f == (api.Fault{}) {
				right(t, faces[name], aliasesOf, x)
			} else if !slices.Contains(codes, f.Code) || f.At != token.At(text, f.At.Off) || !equal(x, api.Tree{}) {
				t.Fatalf("%s of %q: %v", name, text, f)
			}
		}
	}
}

// TestP6_2Rows hands in long rows of what opens something: nothing is told but that the end comes too early.
func TestP6_2Rows(t *testing.T) {
	for _, c := range []struct{ name, begin, row string }{
		{"Expr", "", "("}, {"Expr", "", "- "}, {"Expr", "", "*"}, {"Expr", "", "~"}, {"Expr", "", "a["}, {"Expr", "", "f("}, {"Expr", "", "(f)("}, {"Expr", "", "(int)"}, {"Expr", "", "(int){"}, {"Expr", "", "(int){.a[1]="}, {"Expr", "", "sizeof("}, {"Expr", "", "++ "}, {"Expr", "", "a?"}, {"Expr", "", "a?b:"}, {"Expr", "", "a="}, {"Expr", "", "a,"}, {"Expr", "", "a+"}, {"Expr", "", "offsetof(int,a["}, {"Expr", "", "sizeof(struct{int a["},
		{"Type", "int ", "("}, {"Type", "int ", "*("}, {"Type", "", "int("}, {"Type", "", "struct{"}, {"Type", "", "int[sizeof("}, {"Type", "", "enum{A=sizeof("}, {"Type", "", "union{int a:(int*)sizeof("},
		{"Unit", "int f(void)", "{"}, {"Unit", "int a=", "{"}, {"Unit", "int ", "("}, {"Unit", "int ", "*"}, {"Unit", "int f(int ", "("}, {"Unit", "int f(", "int("}, {"Unit", "int a", "[sizeof(int"}, {"Unit", "", "struct{"}, {"Unit", "int f(void){", "do "}, {"Unit", "int f(void){", "if(a)"}, {"Unit", "int f(void){", "if(a);else "}, {"Unit", "int f(void){", "while(a)"}, {"Unit", "int f(void){", "for(;;)"}, {"Unit", "int f(void){", "{int a;"}, {"Unit", "int f(void){return", "("},
	} {
		each := len(scanned(t, c.row)) - 1
		text := c.begin + strings.Repeat(c.row, min((api.MaxTokens-10)/each, (api.MaxText-100)/len(c.row)))
		refuses(t, faces[c.name], text, nil, api.Fault{Code: api.ErrParse, At: token.At(text, len(text))})
	}
}

package tree

import (
	"testing"

	"mortise/api"
)

// sample is a right tree and its text.
type sample struct {
	x    api.Tree
	text string
}

// exprSamples are right expressions and initialisers of each kind.
func exprSamples() []sample {
	a, b, c := name("a"), name("b"), name("c")
	return []sample{
		{list(item(a)), "{ a }"},
		{list(item(a), item(b), item(list(item(c)))), "{ a , b , { c } }"},
		{item(a), "a"},
		{item(list(item(a))), "{ a }"},
		{item(dot("x"), a), ". x = a"},
		{item(at(a), dot("y"), at(b), list(item(c))), "[ a ] . y [ b ] = { c }"},
		{at(a), "[ a ]"},
		{dot("x"), ". x"},
		{name("_9Z"), "_9Z"},
		{integer(7), "7"},
		{node(api.TrInt, "long", 7), "7L"},
		{node(api.TrInt, "unsigned int", 7), "7U"},
		{node(api.TrInt, "unsigned long", 4294967295), "4294967295UL"},
		{node(api.TrChr, "", 97), "'a'"},
		{node(api.TrChr, "", -128), `'\200'`},
		{node(api.TrStr, "", 0), `""`},
		{node(api.TrStr, "a\n\"\x00\xff", 0), `"a\n\"\000\377"`},
		{node(api.TrPost, "++", 0, a), "a ++"},
		{node(api.TrPost, "--", 0, a), "a --"},
		{of(api.TrCond, a, b, c), "a ? b : c"},
		{node(api.TrCall, "f", 0), "f ( )"},
		{node(api.TrCall, "f", 0, a), "f ( a )"},
		{node(api.TrCall, "f", 0, a, b, c), "f ( a , b , c )"},
		{of(api.TrIndex, a, b), "a [ b ]"},
		{node(api.TrMember, "m", 0, a), "a . m"},
		{node(api.TrArrow, "m", 0, a), "a -> m"},
		{of(api.TrCast, intType(), a), "( int ) a"},
		{of(api.TrSizeE, a), "sizeof a"},
		{of(api.TrSizeT, intType()), "sizeof ( int )"},
		{of(api.TrOffset, intType(), dot("m")), "offsetof ( int , m )"},
		{of(api.TrOffset, intType(), dot("m"), at(a), dot("n"), dot("o")), "offsetof ( int , m [ a ] . n . o )"},
		{of(api.TrLit, intType(), list(item(a))), "( int ) { a }"},
		{of(api.TrSizeE, of(api.TrLit, intType(), list(item(a)))), "sizeof ( int ) { a }"},
		{of(api.TrCast, intType(), of(api.TrLit, intType(), list(item(a)))), "( int ) ( int ) { a }"},
	}
}

// typeSamples are right types and declarations of each kind.
func typeSamples() []sample {
	a, fields := name("a"), of(api.TrBody, field())
	enums := of(api.TrBody, node(api.TrEnum, "A", 0))
	return []sample{
		{node(api.TrTag, "S", 1), "struct S"},
		{node(api.TrTag, "U", 2), "union U"},
		{node(api.TrTag, "E", 3), "enum E"},
		{node(api.TrTag, "S", 1, fields), "struct S { int a ; }"},
		{node(api.TrTag, "", 2, fields), "union { int a ; }"},
		{node(api.TrTag, "", 3, enums), "enum { A }"},
		{node(api.TrTag, "E", 3, enums), "enum E { A }"},
		{of(api.TrBody, field(), field()), "{ int a ; int a ; }"},
		{of(api.TrBody, node(api.TrEnum, "A", 0), node(api.TrEnum, "B", 0, a), node(api.TrEnum, "C", 0)), "{ A , B = a , C }"},
		{node(api.TrAlias, "T", 0), "T"},
		{param(), "int p"},
		{node(api.TrParam, "", 0, base("int"), hole()), "int"},
		{node(api.TrParam, "", 0, base("int"), ptr(hole())), "int *"},
		{intType(), "int"},
		{of(api.TrType, node(api.TrAlias, "T", 0), ptr(hole())), "T *"},
		{decl(), "int x ;"},
		{of(api.TrDecl, node(api.TrTag, "S", 1)), "struct S ;"},
		{node(api.TrDecl, "", 1, base("int"), variable(), variable()), "typedef int x , x ;"},
		{node(api.TrDecl, "", 2, base("int"), variable(), variable(), variable()), "static int x , x , x ;"},
		{node(api.TrVar, "x", 0, ptr(hole()), a), "* x = a"},
		{node(api.TrVar, "x", 0, hole(), list(item(a))), "x = { a }"},
		{of(api.TrFields, base("int"), node(api.TrField, "a", 0, hole()), node(api.TrField, "b", 0, ptr(hole()))), "int a , * b"},
		{node(api.TrField, "a", 0, hole()), "a"},
		{node(api.TrField, "a", 0, hole(), a), "a : a"},
		{node(api.TrField, "", 0, hole(), a), ": a"},
		{node(api.TrEnum, "A", 0), "A"},
		{node(api.TrEnum, "A", 0, a), "A = a"},
		{function(), "int f ( void ) { }"},
		{node(api.TrFunc, "f", 2, base("int"), of(api.TrFn, ptr(hole()), param()), of(api.TsBlock, semi())), "static int * f ( int p ) { ; }"},
		{of(api.TrUnit), ""},
		{of(api.TrUnit, decl(), function(), decl()), "int x ; int f ( void ) { } int x ;"},
	}
}

// statementSamples are right statements of each kind.
func statementSamples() []sample {
	a, b := name("a"), name("b")
	return []sample{
		{of(api.TsBlock), "{ }"},
		{of(api.TsBlock, decl(), semi(), decl(), of(api.TsBlock)), "{ int x ; ; int x ; { } }"},
		{stmt(a), "a ;"},
		{semi(), ";"},
		{of(api.TsBreak), "break ;"},
		{of(api.TsContinue), "continue ;"},
		{ifs(semi()), "if ( a ) ;"},
		{ifs(semi(), of(api.TsBreak)), "if ( a ) ; else break ;"},
		{ifs(ifs(semi())), "if ( a ) if ( a ) ;"},
		{ifs(semi(), ifs(semi())), "if ( a ) ; else if ( a ) ;"},
		{of(api.TsWhile, a, semi()), "while ( a ) ;"},
		{of(api.TsDo, semi(), a), "do ; while ( a ) ;"},
		{of(api.TsFor, semi(), semi(), semi(), of(api.TsBreak)), "for ( ; ; ) break ;"},
		{of(api.TsFor, stmt(a), semi(), semi(), semi()), "for ( a ; ; ) ;"},
		{of(api.TsFor, decl(), b, semi(), semi()), "for ( int x ; b ; ) ;"},
		{of(api.TsFor, decl(), semi(), b, semi()), "for ( int x ; ; b ) ;"},
		{of(api.TsFor, stmt(a), b, name("c"), semi()), "for ( a ; b ; c ) ;"},
		{of(api.TsReturn), "return ;"},
		{of(api.TsReturn, a), "return a ;"},
	}
}

// samples are right trees of each kind, with all signs and all words.
func samples() []sample {
	l := append(append(exprSamples(), typeSamples()...), statementSamples()...)
	for _, s := range []string{"+", "-", "~", "!", "*", "&", "++", "--"} {
		l = append(l, sample{un(s, name("a")), s + " a"})
	}
	for _, s := range []string{"*", "/", "%", "+", "-", "<<", ">>", "<", ">", "<=", ">=", "==", "!=", "&", "^", "|", "&&", "||", ","} {
		l = append(l, sample{bi(s, name("a"), name("b")), "a " + s + " b"})
	}
	for _, s := range []string{"=", "*=", "/=", "%=", "+=", "-=", "<<=", ">>=", "&=", "^=", "|="} {
		l = append(l, sample{set2(s, name("a"), name("b")), "a " + s + " b"})
	}
	for _, s := range []string{"void", "_Bool", "char", "signed char", "unsigned char", "short", "unsigned short", "int", "unsigned int", "long", "unsigned long"} {
		l = append(l, sample{base(s), s})
	}
	for _, s := range declarators() {
		l = append(l, sample{s.x, s.alone})
	}
	return l
}

// round is a declarator, its text alone, and its text round a name p.
type round struct {
	x     api.Tree
	alone string
	name  string
}

// array is an array with or without a length.
func array(d api.Tree, length ...api.Tree) api.Tree {
	return of(api.TrArray, append([]api.Tree{d}, length...)...)
}

// fn is a function of parameters.
func fn(d api.Tree, params ...api.Tree) api.Tree {
	return of(api.TrFn, append([]api.Tree{d}, params...)...)
}

// declarators are pointers, arrays and functions within each other.
func declarators() []round {
	three := integer(3)
	return []round{
		{hole(), "", "p"},
		{ptr(hole()), "*", "* p"},
		{ptr(ptr(ptr(hole()))), "* * *", "* * * p"},
		{array(hole()), "[ ]", "p [ ]"},
		{array(hole(), three), "[ 3 ]", "p [ 3 ]"},
		{array(array(hole(), integer(2)), three), "[ 3 ] [ 2 ]", "p [ 3 ] [ 2 ]"},
		{array(ptr(hole()), three), "* [ 3 ]", "* p [ 3 ]"},
		{ptr(array(hole(), three)), "( * ) [ 3 ]", "( * p ) [ 3 ]"},
		{ptr(ptr(array(hole()))), "( * * ) [ ]", "( * * p ) [ ]"},
		{ptr(array(ptr(array(hole(), three)), integer(2))), "( * ( * ) [ 2 ] ) [ 3 ]", "( * ( * p ) [ 2 ] ) [ 3 ]"},
		{ptr(array(ptr(hole()), three)), "* ( * ) [ 3 ]", "* ( * p ) [ 3 ]"},
		{array(ptr(array(hole(), three)), integer(2)), "( * [ 2 ] ) [ 3 ]", "( * p [ 2 ] ) [ 3 ]"},
		{ptr(array(array(hole(), three), integer(2))), "( * ) [ 2 ] [ 3 ]", "( * p ) [ 2 ] [ 3 ]"},
		{fn(hole()), "( void )", "p ( void )"},
		{fn(hole(), param()), "( int p )", "p ( int p )"},
		{fn(hole(), param(), param(), node(api.TrParam, "", 0, base("char"), ptr(hole()))), "( int p , int p , char * )", "p ( int p , int p , char * )"},
		{fn(ptr(hole())), "* ( void )", "* p ( void )"},
		{ptr(fn(hole())), "( * ) ( void )", "( * p ) ( void )"},
		{ptr(fn(ptr(hole()))), "* ( * ) ( void )", "* ( * p ) ( void )"},
		{array(ptr(fn(hole(), param())), three), "( * [ 3 ] ) ( int p )", "( * p [ 3 ] ) ( int p )"},
		{fn(ptr(fn(hole(), param()))), "( * ( void ) ) ( int p )", "( * p ( void ) ) ( int p )"},
		{fn(ptr(array(hole(), three)), param()), "( * ( int p ) ) [ 3 ]", "( * p ( int p ) ) [ 3 ]"},
		{array(fn(hole()), three), "[ 3 ] ( void )", "p [ 3 ] ( void )"},
		{fn(array(hole(), three)), "( void ) [ 3 ]", "p ( void ) [ 3 ]"},
		{fn(fn(hole(), param())), "( void ) ( int p )", "p ( void ) ( int p )"},
		{fn(hole(), node(api.TrParam, "q", 0, base("int"), ptr(fn(hole())))), "( int ( * q ) ( void ) )", "p ( int ( * q ) ( void ) )"},
		{fn(hole(), node(api.TrParam, "", 0, base("int"), ptr(array(hole())))), "( int ( * ) [ ] )", "p ( int ( * ) [ ] )"},
	}
}

func TestP4_2Samples(t *testing.T) {
	for _, s := range samples() {
		takes(t, s.x)
		prints(t, s.x, s.text)
	}
}

// TestP4_2Declarators puts each declarator into each kind that has one.
func TestP4_2Declarators(t *testing.T) {
	for _, s := range declarators() {
		prints(t, node(api.TrVar, "p", 0, s.x), s.name)
		prints(t, node(api.TrVar, "p", 0, s.x, name("a")), s.name+" = a")
		prints(t, node(api.TrField, "p", 0, s.x), s.name)
		prints(t, node(api.TrField, "p", 0, s.x, name("a")), s.name+" : a")
		prints(t, node(api.TrField, "", 0, s.x, name("a")), spaced(s.alone, ": a"))
		prints(t, node(api.TrParam, "p", 0, base("int"), s.x), "int "+s.name)
		prints(t, node(api.TrParam, "", 0, base("int"), s.x), spaced("int", s.alone))
		prints(t, of(api.TrType, base("int"), s.x), spaced("int", s.alone))
		def := node(api.TrFunc, "p", 0, base("int"), s.x, of(api.TsBlock))
		if s.x.Kind == api.TrFn {
			prints(t, def, "int "+s.name+" { }")
		} else {
			refuses(t, def)
		}
	}
}

// spaced are two texts with a blank between, if both have something.
func spaced(a string, b string) string {
	if a == "" || b == "" {
		return a + b
	}
	return a + " " + b
}

func TestP4_2Examples(t *testing.T) {
	a, b, c := name("a"), name("b"), name("c")
	prints(t, stmt(set2("=", a, bi("+", b, bi("*", c, integer(2))))), "a = b + c * 2 ;")
	prints(t, bi("*", bi("+", a, b), c), "( a + b ) * c")
	prints(t, un("-", un("-", a)), "- - a")
	prints(t, node(api.TrVar, "p", 0, array(ptr(hole()), integer(3))), "* p [ 3 ]")
	prints(t, node(api.TrVar, "p", 0, ptr(array(hole(), integer(3)))), "( * p ) [ 3 ]")
	refuses(t, ifs(ifs(semi()), semi()))
	refuses(t, node(api.TrTag, "", 1))
}

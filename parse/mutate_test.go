package parse

import (
	"math/rand"
	"slices"
	"testing"

	"mortise/api"
	"mortise/token"
)

// scanned are the tokens of a text.
func scanned(t *testing.T, s string) []api.Token {
	t.Helper()
	l, f := token.Scan(s)
	if f != (api.Fault{}) {
		t.Fatalf("Scan answers %v of %.300q", f, s)
	}
	return l
}

// written is a list of tokens as text.
func written(t *testing.T, l []api.Token) string {
	t.Helper()
	s, err := token.Join(l)
	if err != api.OK {
		t.Fatalf("Join answers %d", err)
	}
	return s
}

// rulesOf are the rules that the three calls read.
var rulesOf = map[string]string{"Unit": "unit", "Type": "type", "Expr": "expression"}

// texts are texts of each rule, in which T and U stand for types at first.
var texts = map[string][]string{
	"Unit": {
		"", "int ;", "typedef int T ; T * x ; T T ; int y = T * 2 ;", "static T a , * b = & a ;", "T static a ; U typedef V ; V v ;",
		"struct S ; struct S { int a ; char b : 3 , : 2 , c ; } s , t = { 1 , . b = 2 , } ;", "union { T T ; T x ; } u ; T y ;", "enum E { A , B = A + 1 , T , } e ; enum E g = T ;",
		"int f ( void ) { return 1 ; }", "int f ( ) , g ( int a , T b , U ) ;", "int ( * f ( int T , U * p ) ) ( int U ) { U x ; return T * 2 ; }", "static T * f ( T T ) { T ++ ; } T x ;",
		"int ( ( T ) ) ( int ( U ) , int ( x ) , int ( * ) ( T ) , int * ( * p ) [ 3 ] , void ( ( U ) ) ) ; int a = T ;", "int * a [ 2 ] [ ] , ( * b ) [ 3 ] , ( * ( * c ( void ) ) [ ] ) ( int ) ;",
		"int f ( void ) { { typedef int a ; a * b ; } a * b ; for ( int T = 0 ; T < 3 ; T ++ ) { T * b ; } T * b ; }",
		"int f ( int a ) { for ( ; ; ) if ( a ) break ; else continue ; for ( a = 0 ; a ; a ++ ) ; for ( typedef int a ; ; ) { a x ; } do { } while ( a ) ; while ( a ) return ; }",
		"int f ( void ) { if ( a ) if ( b ) ; else ; else { ; } struct { int a ; } T ; T . a = sizeof ( enum { U } ) ; U * 2 ; }",
		"int a [ ] = { [ 2 ] = 1 , [ 3 ] . x = { 2 } , { { 4 } } } , b = ( T ) { 1 } . x ; void f ( void , int ) ;", "long unsigned int a ; signed char b ; short c ; unsigned d ; char unsigned static e ; _Bool g ;",
		"int f ( enum { T } a ) { T * 2 ; } int g ( int a [ sizeof ( T ) ] ) ; T x ; typedef struct T { struct T * T ; } * T ; T y ;",
	},
	"Type": {
		"int", "T", "T * *", "int ( * ) [ 3 ]", "int ( T )", "int ( )", "int ( ( T ) )", "int * ( * ( * ) ( void ) ) [ ]", "int [ 2 ] ( int )", "struct S { T a ; } *", "enum { T , x = T } ( U , U )", "unsigned long int", "int ( int x , int ( y ) , int z [ x ] )", "struct S", "int ( [ ] )", "union U { int a : 2 ; } ( ( * ) ( U U ) ) [ 2 ]",
	},
	"Expr": {
		"a , b = c += d", "a ? b , c : d ? e : f", "a || b && c | d ^ e & f == g < h << i + j * k", "- + ~ ! * & ++ -- a", "( T ) - 1", "( x ) - 1", "( f ) ( x ) ( ) + f ( ) + f ( a = 1 , b )", "sizeof ( T ) { 1 } . a [ 2 ] -> b ++ --", "sizeof ( T ) * 2 + sizeof a + sizeof ( a ) [ 2 ]",
		"( T ) ( U * ) a = b", "* ( T * ) a = b", "( T ) { 1 , } = 2", "offsetof ( struct S , a . b [ 2 ] . T ) != 'c' - \"s\" \"t\"", "( ( a ) , ( ( b ) ) )", "a [ b , c ] . T -> U", "sizeof ( enum { T , a = T } ) + T * a", "( T ( * ) [ sizeof ( T ) ] ) a", "++ ( T ) { 1 }", "a <<= b >>= c &= d ^= e |= f %= g /= h *= i -= j",
	},
}

// aliasesOf are names that stand for types at first: Unit's texts have a typedef ahead.
var aliasesOf = []string{"T", "U"}

// whole is a text with what it needs ahead of it.
func whole(name string, text string) string {
	if name == "Unit" {
		return "typedef int T , U ; " + text
	}
	return text
}

// TestP6_2Texts asks that the tests' own texts are read, and are right.
func TestP6_2Texts(t *testing.T) {
	refused := []string{"( f ) ( x ) ( ) + f ( ) + f ( a = 1 , b )", "( T ) ( U * ) a = b"} // they are there to be turned
	for _, name := range faceNames {
		for _, s := range texts[name] {
			x, f := faces[name](whole(name, s), aliasesOf...)
			if (f == api.Fault{}) == slices.Contains(refused, s) {
				t.Errorf("%s of %q: %v", name, s, f)
			} else if f == (api.Fault{}) {
				right(t, faces[name], aliasesOf, x)
			}
		}
	}
}

// turn changes a few tokens by chance: some fall out, some are doubled or exchanged, some come from elsewhere.
func turn(r *rand.Rand, l []api.Token, others []api.Token) []api.Token {
	l = slices.Clone(l)
	for range 1 + r.Intn(3) {
		i := r.Intn(len(l) + 1)
		switch {
		case i == len(l):
			l = append(l, others[r.Intn(len(others))])
		case r.Intn(4) == 0:
			l = slices.Delete(l, i, i+1)
		case r.Intn(3) == 0:
			l = slices.Insert(l, i, others[r.Intn(len(others))])
		case r.Intn(3) == 0:
			j := r.Intn(len(l))
			l[i], l[j] = l[j], l[i]
		case r.Intn(4) == 0:
			j := i + r.Intn(min(5, len(l)-i)) + 1
			l = slices.Insert(l, r.Intn(len(l)), slices.Clone(l[i:j])...)
		default:
			l[i] = others[r.Intn(len(others))]
		}
	}
	return l
}

// vocabulary are the tokens of all texts.
func vocabulary(t *testing.T) []api.Token {
	var l []api.Token
	for _, name := range faceNames {
		for _, s := range texts[name] {
			l = append(l, scanned(t, s)...)
		}
	}
	return slices.DeleteFunc(l, func(x api.Token) bool { return x.Kind == api.TokEnd })
}

// agrees asks that a call says of a text what the tracer says, and answers whether it was read.
func agrees(t *testing.T, name string, text string) bool {
	t.Helper()
	tokens := scanned(t, text)
	aliases := aliasesOf
	if name == "Unit" {
		aliases = nil
	}
	at := trace(tokens, rulesOf[name], aliases)
	if at >= 0 {
		refuses(t, faces[name], text, aliasesOf, api.Fault{Code: api.ErrParse, At: tokens[at].At})
		return false
	}
	x, f := faces[name](text, aliasesOf...)
	if f != (api.Fault{}) {
		t.Errorf("%s of %q: %v", name, text, f)
	} else {
		right(t, faces[name], aliasesOf, x)
	}
	return true
}

// TestP6_2Turned holds the first fault of turned texts against all ways through the grammar.
func TestP6_2Turned(t *testing.T) {
	r := rand.New(rand.NewSource(1))
	others := vocabulary(t)
	for _, name := range faceNames {
		count := map[bool]int{}
		for range 4000 {
			s := texts[name][r.Intn(len(texts[name]))]
			l := scanned(t, s)
			l = turn(r, l[:len(l)-1], others)
			count[agrees(t, name, whole(name, written(t, l)))]++
			if t.Failed() {
				return
			}
		}
		if count[true] < 200 || count[false] < 2000 {
			t.Errorf("%s: the turned texts are too much alike: %v", name, count)
		}
	}
}

// TestP6_2Early ends texts behind each of their tokens.
func TestP6_2Early(t *testing.T) {
	for _, name := range faceNames {
		for _, s := range texts[name] {
			s = whole(name, s)
			for _, x := range scanned(t, s) {
				agrees(t, name, s[:x.At.Off])
			}
		}
	}
}

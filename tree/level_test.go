package tree

import (
	"strings"
	"testing"

	"mortise/api"
)

// ranked is an expression, its text, and its level.
type ranked struct {
	x     api.Tree
	text  string
	level int
}

// signLevels are the levels of TrBis.
var signLevels = map[string]int{
	",": 0, "||": 3, "&&": 4, "|": 5, "^": 6, "&": 7, "==": 8, "!=": 8, "<": 9, ">": 9, "<=": 9, ">=": 9, "<<": 10, ">>": 10, "+": 11, "-": 11, "*": 12, "/": 12, "%": 12,
}

// rankeds are expressions of each kind and each sign.
func rankeds() []ranked {
	a, b, c := name("a"), name("b"), name("c")
	l := []ranked{
		{of(api.TrCond, a, b, c), "a ? b : c", 2},
		{of(api.TrCast, intType(), a), "( int ) a", 13},
		{of(api.TrSizeE, a), "sizeof a", 14},
		{of(api.TrSizeT, intType()), "sizeof ( int )", 14},
		{node(api.TrPost, "++", 0, a), "a ++", 15},
		{node(api.TrPost, "--", 0, a), "a --", 15},
		{of(api.TrIndex, a, b), "a [ b ]", 15},
		{node(api.TrCall, "f", 0, a), "f ( a )", 15},
		{node(api.TrMember, "m", 0, a), "a . m", 15},
		{node(api.TrArrow, "m", 0, a), "a -> m", 15},
		{of(api.TrLit, intType(), list(item(a))), "( int ) { a }", 15},
		{of(api.TrOffset, intType(), dot("m")), "offsetof ( int , m )", 15},
		{a, "a", 16}, {integer(1), "1", 16}, {node(api.TrChr, "", 97), "'a'", 16}, {node(api.TrStr, "s", 0), `"s"`, 16},
	}
	for _, s := range biSigns {
		l = append(l, ranked{bi(s, a, b), "a " + s + " b", signLevels[s]})
	}
	for _, s := range setSigns {
		l = append(l, ranked{set2(s, a, b), "a " + s + " b", 1})
	}
	for _, s := range unSigns {
		l = append(l, ranked{un(s, a), s + " a", 14})
	}
	return l
}

// spot is a place for an expression: the tree round it, its text with @ for the expression, and the level that it wants.
type spot struct {
	round func(x api.Tree) api.Tree
	text  string
	wants int
}

// exprSpots are the places within expressions and initialisers.
func exprSpots() []spot {
	l := name("l")
	spots := []spot{
		{func(x api.Tree) api.Tree { return x }, "@", 0},
		{func(x api.Tree) api.Tree { return of(api.TrIndex, x, l) }, "@ [ l ]", 15},
		{func(x api.Tree) api.Tree { return of(api.TrIndex, l, x) }, "l [ @ ]", 0},
		{func(x api.Tree) api.Tree { return of(api.TrCond, x, l, l) }, "@ ? l : l", 3},
		{func(x api.Tree) api.Tree { return of(api.TrCond, l, x, l) }, "l ? @ : l", 0},
		{func(x api.Tree) api.Tree { return of(api.TrCond, l, l, x) }, "l ? l : @", 2},
		{func(x api.Tree) api.Tree { return node(api.TrCall, "f", 0, x) }, "f ( @ )", 1},
		{func(x api.Tree) api.Tree { return node(api.TrCall, "f", 0, x, l) }, "f ( @ , l )", 1},
		{func(x api.Tree) api.Tree { return node(api.TrCall, "f", 0, l, x, l) }, "f ( l , @ , l )", 1},
		{func(x api.Tree) api.Tree { return item(x) }, "@", 1},
		{func(x api.Tree) api.Tree { return item(dot("m"), x) }, ". m = @", 1},
		{func(x api.Tree) api.Tree { return item(at(x), l) }, "[ @ ] = l", 2},
		{func(x api.Tree) api.Tree { return list(item(l), item(x)) }, "{ l , @ }", 1},
		{at, "[ @ ]", 2},
		{func(x api.Tree) api.Tree { return of(api.TrOffset, intType(), dot("m"), at(x)) }, "offsetof ( int , m [ @ ] )", 2},
		{func(x api.Tree) api.Tree { return of(api.TrLit, intType(), list(item(x))) }, "( int ) { @ }", 1},
		{func(x api.Tree) api.Tree { return of(api.TrCast, intType(), x) }, "( int ) @", 13},
		{func(x api.Tree) api.Tree { return of(api.TrSizeE, x) }, "sizeof @", 14},
		{func(x api.Tree) api.Tree { return node(api.TrMember, "m", 0, x) }, "@ . m", 15},
		{func(x api.Tree) api.Tree { return node(api.TrArrow, "m", 0, x) }, "@ -> m", 15},
		{func(x api.Tree) api.Tree { return node(api.TrPost, "++", 0, x) }, "@ ++", 15},
		{func(x api.Tree) api.Tree { return node(api.TrPost, "--", 0, x) }, "@ --", 15},
	}
	for _, s := range biSigns {
		spots = append(spots,
			spot{func(x api.Tree) api.Tree { return bi(s, x, l) }, "@ " + s + " l", signLevels[s]},
			spot{func(x api.Tree) api.Tree { return bi(s, l, x) }, "l " + s + " @", signLevels[s] + 1})
	}
	for _, s := range setSigns {
		spots = append(spots,
			spot{func(x api.Tree) api.Tree { return set2(s, x, l) }, "@ " + s + " l", 14},
			spot{func(x api.Tree) api.Tree { return set2(s, l, x) }, "l " + s + " @", 1})
	}
	for _, s := range unSigns {
		wants := 13
		if len(s) == 2 {
			wants = 14
		}
		spots = append(spots, spot{func(x api.Tree) api.Tree { return un(s, x) }, s + " @", wants})
	}
	return spots
}

// otherSpots are the places within types, declarations and statements.
func otherSpots() []spot {
	l := name("l")
	return []spot{
		{func(x api.Tree) api.Tree { return array(hole(), x) }, "[ @ ]", 2},
		{func(x api.Tree) api.Tree { return node(api.TrVar, "v", 0, array(ptr(hole()), x)) }, "* v [ @ ]", 2},
		{func(x api.Tree) api.Tree { return node(api.TrVar, "v", 0, hole(), x) }, "v = @", 1},
		{func(x api.Tree) api.Tree { return node(api.TrVar, "v", 0, hole(), list(item(x))) }, "v = { @ }", 1},
		{func(x api.Tree) api.Tree { return node(api.TrField, "v", 0, hole(), x) }, "v : @", 2},
		{func(x api.Tree) api.Tree { return node(api.TrField, "", 0, hole(), x) }, ": @", 2},
		{func(x api.Tree) api.Tree { return node(api.TrEnum, "v", 0, x) }, "v = @", 2},
		{func(x api.Tree) api.Tree { return of(api.TrBody, node(api.TrEnum, "v", 0, x)) }, "{ v = @ }", 2},
		{stmt, "@ ;", 0},
		{func(x api.Tree) api.Tree { return of(api.TsIf, x, semi()) }, "if ( @ ) ;", 0},
		{func(x api.Tree) api.Tree { return of(api.TsIf, x, semi(), semi()) }, "if ( @ ) ; else ;", 0},
		{func(x api.Tree) api.Tree { return of(api.TsWhile, x, semi()) }, "while ( @ ) ;", 0},
		{func(x api.Tree) api.Tree { return of(api.TsDo, semi(), x) }, "do ; while ( @ ) ;", 0},
		{func(x api.Tree) api.Tree { return of(api.TsFor, stmt(x), l, l, semi()) }, "for ( @ ; l ; l ) ;", 0},
		{func(x api.Tree) api.Tree { return of(api.TsFor, semi(), x, l, semi()) }, "for ( ; @ ; l ) ;", 0},
		{func(x api.Tree) api.Tree { return of(api.TsFor, semi(), l, x, semi()) }, "for ( ; l ; @ ) ;", 0},
		{func(x api.Tree) api.Tree { return of(api.TsReturn, x) }, "return @ ;", 0},
	}
}

// TestP4_2Levels tries each pair of an expression and a place.
func TestP4_2Levels(t *testing.T) {
	for _, p := range append(exprSpots(), otherSpots()...) {
		for _, r := range rankeds() {
			text := r.text
			if r.level < p.wants {
				text = "( " + text + " )"
			}
			prints(t, p.round(r.x), strings.Replace(p.text, "@", text, 1))
		}
	}
}

// TestP4_2Within tries places within places: parentheses of the inner one are not the outer one's.
func TestP4_2Within(t *testing.T) {
	seen := map[int]bool{}
	for _, p := range exprSpots() {
		for _, q := range rankeds() {
			y := p.round(q.x)
			if seen[int(y.Kind)<<8+signLevels[y.Text]<<4+q.level] || y.Kind == api.TrItem || y.Kind == api.TrAt || y.Kind == api.TrList {
				continue
			}
			seen[int(y.Kind)<<8+signLevels[y.Text]<<4+q.level] = true
			inner, _ := Print(y)
			for _, o := range otherSpots() {
				text := inner
				if ownLevel(y) < o.wants {
					text = "( " + inner + " )"
				}
				prints(t, o.round(y), strings.Replace(o.text, "@", text, 1))
			}
		}
	}
	if len(seen) < 100 {
		t.Errorf("%d inner trees", len(seen))
	}
}

package tree

import (
	"reflect"
	"slices"
	"testing"

	"mortise/api"
	"mortise/token"
)

// TestP4_2Tokens asks for the tokens' kinds, numbers and missing spots.
func TestP4_2Tokens(t *testing.T) {
	x := of(api.TrUnit, node(api.TrDecl, "", 2, base("unsigned char"), node(api.TrVar, "v", 0, array(hole(), node(api.TrInt, "unsigned long", 9)), list(item(dot("m"), node(api.TrChr, "", -1)), item(node(api.TrStr, "v", 0))))))
	x.At, x.Sub[0].At, x.Sub[0].Sub[0].At = api.Spot{Line: 1}, api.Spot{Col: 2}, api.Spot{Off: 3}
	sign := func(s string) api.Token { return api.Token{Kind: api.TokPunct, Text: s} }
	word := func(s string) api.Token { return api.Token{Kind: api.TokWord, Text: s} }
	name := func(s string) api.Token { return api.Token{Kind: api.TokName, Text: s} }
	want := []api.Token{
		word("static"), word("unsigned"), word("char"), name("v"), sign("["), {Kind: api.TokInt, Text: "unsigned long", Num: 9}, sign("]"), sign("="),
		sign("{"), sign("."), name("m"), sign("="), {Kind: api.TokChar, Num: -1}, sign(","), {Kind: api.TokStr, Text: "v"}, sign("}"), sign(";"),
	}
	if l, err := Tokens(x); err != api.OK || !slices.Equal(l, want) {
		t.Errorf("Tokens answers %v, %d", l, err)
	}
	for _, empty := range []api.Tree{of(api.TrUnit), hole()} {
		if l, err := Tokens(empty); err != api.OK || len(l) != 0 {
			t.Errorf("Tokens answers %v, %d of %s", l, err, brief(empty))
		}
	}
}

// scanned are the tokens of a text, without spots and without the end.
func scanned(t *testing.T, s string) []api.Token {
	t.Helper()
	l, f := token.Scan(s)
	if f != (api.Fault{}) {
		t.Fatalf("Scan answers %v of %.300q", f, s)
	}
	for i := range l {
		l[i].At = api.Spot{}
	}
	return l[:len(l)-1]
}

func TestP4_3Scan(t *testing.T) {
	g := newGrower(7)
	trees := []api.Tree{}
	for _, s := range samples() {
		trees = append(trees, s.x)
	}
	for range 4000 {
		trees = append(trees, g.any(g.Intn(8)))
	}
	read := 0
	for _, x := range trees {
		l, err := Tokens(x)
		s, errPrint := Print(x)
		joined, errJoin := token.Join(l)
		if err != api.OK || errPrint != api.OK || errJoin != api.OK || s != joined {
			t.Fatalf("Print answers %.300q, %d, Join %.300q, %d", s, errPrint, joined, errJoin)
		}
		if len(s) <= api.MaxText && len(l) <= api.MaxTokens {
			read++
			if got := scanned(t, s); !slices.Equal(got, l) {
				t.Fatalf("Scan of %.300q is not what Tokens answers", s)
			}
		}
	}
	if read < len(trees)*9/10 {
		t.Errorf("just %d of %d texts were short enough", read, len(trees))
	}
}

// TestP4_3Long writes more than a text may have: that is Scan's matter alone.
func TestP4_3Long(t *testing.T) {
	x := node(api.TrCall, "f", 0, make([]api.Tree, api.MaxTokens)...)
	for i := range x.Sub {
		x.Sub[i] = name("abcdefgh")
	}
	s, err := Print(x)
	if l, errTokens := Tokens(x); err != api.OK || errTokens != api.OK || len(l) != 2*api.MaxTokens+2 || len(s) <= api.MaxText {
		t.Errorf("%d bytes, %d; %d tokens, %d", len(s), err, len(l), errTokens)
	}
}

func TestP4_3Bare(t *testing.T) {
	g := newGrower(8)
	for range 3000 {
		x := g.change(g.any(5))
		if g.Intn(2) == 0 {
			x = g.any(5)
		}
		y := Bare(x)
		if !Same(x, y) || !Same(y, x) || !reflect.DeepEqual(Bare(y), y) {
			t.Fatalf("Bare of %s", brief(x))
		}
		one, err := Tokens(x)
		other, errBare := Tokens(y)
		if err != errBare || !slices.Equal(one, other) || Check(x) != Check(y) || Size(x) != Size(y) || Deep(x) != Deep(y) {
			t.Fatalf("%s and its bare tree are not alike", brief(x))
		}
		if Deep(x) > Size(x) {
			t.Fatalf("%d levels, %d nodes", Deep(x), Size(x))
		}
	}
}

// TestP4_3Parts asks that the parts of right trees are right.
func TestP4_3Parts(t *testing.T) {
	g := newGrower(9)
	var all func(x api.Tree)
	all = func(x api.Tree) {
		for _, s := range x.Sub {
			takes(t, s)
			all(s)
		}
	}
	for range 500 {
		x := g.any(6)
		takes(t, x)
		all(x)
	}
}

package tree

import (
	"fmt"
	"testing"

	"mortise/api"
)

// node makes a tree.
func node(k api.TreeKind, text string, num int, sub ...api.Tree) api.Tree {
	return api.Tree{Kind: k, Text: text, Num: num, Sub: sub}
}

// of makes a tree that has parts alone.
func of(k api.TreeKind, sub ...api.Tree) api.Tree { return node(k, "", 0, sub...) }

func name(s string) api.Tree                          { return node(api.TrName, s, 0) }
func integer(n int) api.Tree                          { return node(api.TrInt, "int", n) }
func un(sign string, x api.Tree) api.Tree             { return node(api.TrUn, sign, 0, x) }
func bi(sign string, a api.Tree, b api.Tree) api.Tree { return node(api.TrBi, sign, 0, a, b) }
func set2(sign string, a api.Tree, b api.Tree) api.Tree {
	return node(api.TrSet, sign, 0, a, b)
}
func hole() api.Tree                  { return of(api.TrHole) }
func ptr(d api.Tree) api.Tree         { return of(api.TrPtr, d) }
func base(words string) api.Tree      { return node(api.TrBase, words, 0) }
func list(items ...api.Tree) api.Tree { return of(api.TrList, items...) }
func item(sub ...api.Tree) api.Tree   { return of(api.TrItem, sub...) }
func dot(s string) api.Tree           { return node(api.TrDot, s, 0) }
func at(x api.Tree) api.Tree          { return of(api.TrAt, x) }
func semi() api.Tree                  { return of(api.TsNone) }
func stmt(x api.Tree) api.Tree        { return of(api.TsExpr, x) }

// intType is the name of the type int.
func intType() api.Tree { return of(api.TrType, base("int"), hole()) }

// field is one member, int a.
func field() api.Tree {
	return of(api.TrFields, base("int"), node(api.TrField, "a", 0, hole()))
}

// param is a parameter, int p.
func param() api.Tree { return node(api.TrParam, "p", 0, base("int"), hole()) }

// variable is an int x.
func variable() api.Tree { return node(api.TrVar, "x", 0, hole()) }

// decl is int x ;
func decl() api.Tree { return of(api.TrDecl, base("int"), variable()) }

// function is int f(void) { }
func function() api.Tree {
	return node(api.TrFunc, "f", 0, base("int"), of(api.TrFn, hole()), of(api.TsBlock))
}

// ifs is an if with one or two statements behind it.
func ifs(sub ...api.Tree) api.Tree { return of(api.TsIf, append([]api.Tree{name("a")}, sub...)...) }

// brief is a tree for a remark.
func brief(x api.Tree) string { return fmt.Sprintf("%.400s", fmt.Sprint(x)) }

// takes asks that Check takes a tree.
func takes(t *testing.T, x api.Tree) {
	t.Helper()
	if err := Check(x); err != api.OK {
		t.Errorf("Check refuses %s with %d", brief(x), err)
	}
}

// refuses asks that Check, Tokens and Print refuse a tree.
func refuses(t *testing.T, x api.Tree) {
	t.Helper()
	if err := Check(x); err != api.ErrTree {
		t.Errorf("Check answers %d of %s", err, brief(x))
	}
	if l, err := Tokens(x); err != api.ErrTree || len(l) != 0 {
		t.Errorf("Tokens answers %d tokens, %d of %s", len(l), err, brief(x))
	}
	if s, err := Print(x); err != api.ErrTree || s != "" {
		t.Errorf("Print answers %.300q, %d of %s", s, err, brief(x))
	}
}

// prints asks for the text of a tree.
func prints(t *testing.T, x api.Tree, want string) {
	t.Helper()
	if s, err := Print(x); err != api.OK || s != want {
		t.Errorf("Print answers %.300q, %d, want %.300q", s, err, want)
	}
}

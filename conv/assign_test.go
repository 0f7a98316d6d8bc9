package conv

import "testing"

// typesCase is two types, and what Assign and Cast of the second to the first, and Cond of both, answer.
type typesCase struct {
	a, b               string
	assign, cast, cond string
}

// typesCases are ordinary cases and edges.
func typesCases() []typesCase {
	return []typesCase{
		{"int", "char", "ok", "ok", "int"},
		{"unsigned int", "long", "ok", "ok", "unsigned long"},
		{"_Bool", "unsigned long", "ok", "ok", "unsigned long"},
		{"enum E", "int", "ok", "ok", "int"},
		{"enum E", "enum F", "ok", "ok", "int"},
		{"char", "enum E", "ok", "ok", "int"},
		{"int *", "int *", "ok", "ok", "int *"},
		{"void *", "void *", "ok", "ok", "void *"},
		{"int *", "void *", "ok", "ok", "void *"},
		{"void *", "int *", "ok", "ok", "void *"},
		{"void *", "struct Open *", "ok", "ok", "void *"},
		{"void **", "void *", "ok", "ok", "void *"},
		{"void **", "int **", "kind", "ok", "kind"},
		{"int *", "char *", "kind", "ok", "kind"},
		{"struct Pair *", "struct Twin *", "kind", "ok", "kind"},
		{"struct Open *", "struct Open *", "ok", "ok", "struct Open *"},
		{"int *", "int", "kind", "kind", "kind"},
		{"int", "int *", "kind", "kind", "kind"},
		{"_Bool", "int *", "kind", "ok", "kind"},
		{"int *", "_Bool", "kind", "kind", "kind"},
		{"char", "void *", "kind", "kind", "kind"},
		{"_Bool", "void *", "kind", "ok", "kind"},
		{"struct Pair", "struct Pair", "ok", "kind", "struct Pair"},
		{"union Pair", "union Pair", "ok", "kind", "union Pair"},
		{"struct Pair", "struct Twin", "kind", "kind", "kind"},
		{"struct Pair", "union Pair", "kind", "kind", "kind"},
		{"struct Open", "struct Open", "kind", "kind", "struct Open"},
		{"union Open", "union Open", "kind", "kind", "union Open"},
		{"struct Pair", "struct Open", "kind", "kind", "kind"},
		{"struct Pair", "int", "kind", "kind", "kind"},
		{"int", "struct Pair", "kind", "kind", "kind"},
		{"struct Pair", "struct Pair *", "kind", "kind", "kind"},
		{"struct Pair *", "struct Pair", "kind", "kind", "kind"},
		{"_Bool", "struct Pair", "kind", "kind", "kind"},
		{"void", "void", "kind", "ok", "void"},
		{"void", "int", "kind", "ok", "kind"},
		{"int", "void", "kind", "kind", "kind"},
		{"_Bool", "void", "kind", "kind", "kind"},
		{"void", "int *", "kind", "ok", "kind"},
		{"int *", "void", "kind", "kind", "kind"},
		{"void", "struct Pair", "kind", "ok", "kind"},
		{"void", "union Open", "kind", "ok", "kind"},
		{"void", "int [3]", "kind", "ok", "kind"},
		{"void", "int []", "kind", "ok", "kind"},
		{"struct Pair", "void", "kind", "kind", "kind"},
		{"int [3]", "int [3]", "kind", "kind", "kind"},
		{"int []", "int []", "kind", "kind", "kind"},
		{"int *", "int [3]", "kind", "kind", "kind"},
		{"int [3]", "int *", "kind", "kind", "kind"},
		{"_Bool", "int [3]", "kind", "kind", "kind"},
	}
}

// TestP7_4Cases: ordinary cases and edges, by name.
func TestP7_4Cases(t *testing.T) {
	k := newKit(t)
	for _, c := range typesCases() {
		a, b := k.id(c.a), k.id(c.b)
		if got := k.error(Assign(k.Table, a, b)); got != c.assign {
			t.Errorf("Assign(%s, %s): %s, want %s", c.a, c.b, got, c.assign)
		}
		if got := k.error(Cast(k.Table, a, b)); got != c.cast {
			t.Errorf("Cast(%s, %s): %s, want %s", c.a, c.b, got, c.cast)
		}
		if got := k.showType(Cond(k.Table, a, b)); got != c.cond {
			t.Errorf("Cond(%s, %s): %s, want %s", c.a, c.b, got, c.cond)
		}
		if got := k.showType(Cond(k.Table, b, a)); got != c.cond {
			t.Errorf("Cond(%s, %s): %s, want %s", c.b, c.a, got, c.cond)
		}
	}
}

// TestP7_4All: every two types, held against the second telling.
func TestP7_4All(t *testing.T) {
	k := newKit(t)
	for a := range k.Len() {
		for b := range k.Len() {
			if got, want := Assign(k.Table, a, b), k.slowAssign(a, b); got != want {
				t.Errorf("Assign(%s, %s): %s, want %s", k.name(a), k.name(b), k.error(got), k.error(want))
			}
			if got, want := Cast(k.Table, a, b), k.slowCast(a, b); got != want {
				t.Errorf("Cast(%s, %s): %s, want %s", k.name(a), k.name(b), k.error(got), k.error(want))
			}
			got := k.showType(Cond(k.Table, a, b))
			if want := k.showType(k.slowCond(a, b)); got != want {
				t.Errorf("Cond(%s, %s): %s, want %s", k.name(a), k.name(b), got, want)
			}
		}
	}
}

// TestP7_4Completed: a struct may be assigned from when it is done on.
func TestP7_4Completed(t *testing.T) {
	k := newKit(t)
	open, whole := k.id("struct Open"), k.id("struct Pair")
	before := k.error(Assign(k.Table, open, open))
	row, _ := k.Row(whole)
	k.took(open, k.Complete(open, row.Members))
	if after := k.error(Assign(k.Table, open, open)); before != "kind" || after != "ok" {
		t.Errorf("%s ahead of the members, %s behind them", before, after)
	}
	if got := k.error(Assign(k.Table, open, whole)); got != "kind" {
		t.Errorf("another struct with such members: %s", got)
	}
}

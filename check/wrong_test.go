package check

import (
	"math"
	"reflect"
	"slices"
	"strings"
	"testing"

	"mortise/api"
	"mortise/parse"
	"mortise/tree"
)

// node makes a node.
func node(k api.TreeKind, text string, num int, sub ...api.Tree) api.Tree {
	return api.Tree{Kind: k, Text: text, Num: num, Sub: sub}
}

// unitTree is the tree of a text.
func unitTree(t testing.TB, text string) api.Tree {
	t.Helper()
	x, f := parse.Unit(text)
	if f != (api.Fault{}) {
		t.Fatalf("%q: %v", text, f)
	}
	return x
}

// everyNode hands on each node of a tree, by its address.
func everyNode(x *api.Tree, do func(x *api.Tree)) {
	do(x)
	for i := range x.Sub {
		everyNode(&x.Sub[i], do)
	}
}

// refusesTree asks for a fault of a tree, and that nothing stands beside it.
func refusesTree(t testing.TB, what string, x api.Tree, want api.Fault) {
	t.Helper()
	if p, f := Check(x); f != want || !reflect.DeepEqual(p, api.Prog{}) {
		t.Errorf("%s: got %v, want %v", what, f, want)
	}
}

// TestP10_1OtherTrees: what is no TrUnit, or one that layer 4 does not take.
func TestP10_1OtherTrees(t *testing.T) {
	wrong := api.Fault{Code: api.ErrTree}
	whole := unitTree(t, stock+"int main(void) { int x = 1; for (; x; ) x++; return x; }")
	everyNode(&whole, func(x *api.Tree) {
		if x.Kind != api.TrUnit {
			refusesTree(t, "a part", *x, wrong)
		}
	})
	for _, k := range []api.TreeKind{0, -1, api.TrList, api.TrStr, api.TrName, api.TrUnit + 1, api.TsBlock, api.TxConst, api.TxVoid, 1000, math.MaxInt, math.MinInt} {
		refusesTree(t, "another kind", node(k, "", 0), wrong)
		refusesTree(t, "another kind", node(k, "", 0, whole.Sub...), wrong)
		refusesTree(t, "another kind within", node(api.TrUnit, "", 0, node(k, "", 0)), wrong)
	}
	refusesTree(t, "a unit with text", node(api.TrUnit, "x", 0), wrong)
	refusesTree(t, "a unit with a number", node(api.TrUnit, "", 1), wrong)
	refusesTree(t, "a unit with a type", api.Tree{Kind: api.TrUnit, Type: 1}, wrong)
	refusesTree(t, "a unit in a unit", node(api.TrUnit, "", 0, whole), wrong)
	refusesTree(t, "an empty unit", node(api.TrUnit, "", 0), api.Fault{Code: api.ErrMain})
	main := unitTree(t, "int main(void) { }").Sub[0]
	for _, x := range []api.Tree{
		node(api.TrDecl, "", 3, node(api.TrBase, "int", 0)), node(api.TrDecl, "", 0), node(api.TrDecl, "", 0, node(api.TrBase, "float", 0)), node(api.TrDecl, "", 0, node(api.TrBase, "int", 0), node(api.TrVar, "1", 0, node(api.TrHole, "", 0))), node(api.TrDecl, "", 0, node(api.TrTag, "", 1)), node(api.TrDecl, "", 0, node(api.TrTag, "S", 4)), node(api.TrDecl, "", 0, node(api.TrTag, "int", 1)),
		node(api.TrFunc, "f", 1, main.Sub...), node(api.TrFunc, "f", 0, main.Sub[0], node(api.TrHole, "", 0), main.Sub[2]), node(api.TrFunc, "f", 0, main.Sub[0], main.Sub[1], node(api.TsBlock, "", 0, node(api.TsFresh, "", 0))), node(api.TrFunc, "f", 0, main.Sub[0], main.Sub[1], node(api.TsBlock, "", 0, node(api.TsExpr, "", 0, api.Tree{Kind: api.TxConst, Type: 7}))),
	} {
		refusesTree(t, "a wrong tree", node(api.TrUnit, "", 0, main, x), wrong)
		refusesTree(t, "a wrong tree behind a fault", node(api.TrUnit, "", 0, unitTree(t, "int x = y;").Sub[0], x), wrong)
	}
}

// TestP10_1Deep: as many levels as a tree may have, and one more.
func TestP10_1Deep(t *testing.T) {
	deep := func(n int) api.Tree {
		x := node(api.TrInt, "int", 1)
		for range n {
			x = node(api.TrUn, "-", 0, x)
		}
		unit := unitTree(t, "int main(void) { return 1; }")
		unit.Sub[0].Sub[2].Sub[0].Sub[0] = x
		return unit
	}
	if p, f := Check(deep(api.MaxNest - 5)); f != (api.Fault{}) || tree.Deep(deep(api.MaxNest-5)) != api.MaxNest {
		t.Errorf("%v", f)
	} else {
		judge(t, "deep", p)
	}
	refusesTree(t, "one level more", deep(api.MaxNest-4), api.Fault{Code: api.ErrTree})
	refusesTree(t, "many levels more", deep(100000), api.Fault{Code: api.ErrTree})
	refuses(t, "int main(void) { return "+strings.Repeat("- ", 260)+"1; }", api.Fault{Code: api.ErrNest})
}

// TestP10_1ByHand: trees that no text has: names of types as values and as functions, names of values as types.
func TestP10_1ByHand(t *testing.T) {
	at := api.Spot{Line: 7, Col: 8, Off: 9}
	typedef := unitTree(t, "typedef int T; int x;").Sub
	alias := func(name string) api.Tree { return api.Tree{Kind: api.TrAlias, Text: name, At: at} }
	inMain := func(e api.Tree) api.Tree {
		unit := unitTree(t, "int main(void) { 1; }")
		unit.Sub[0].Sub[2].Sub[0].Sub[0] = e
		return node(api.TrUnit, "", 0, append(slices.Clone(typedef), unit.Sub...)...)
	}
	refusesTree(t, "a type as a value", inMain(api.Tree{Kind: api.TrName, Text: "T", At: at}), api.Fault{Code: api.ErrOperand, At: at})
	refusesTree(t, "a type as a function", inMain(api.Tree{Kind: api.TrCall, Text: "T", At: at}), api.Fault{Code: api.ErrCall, At: at})
	hole := node(api.TrHole, "", 0)
	for _, name := range []string{"x", "y", "main", "putchar"} {
		refusesTree(t, "no type", inMain(node(api.TrSizeT, "", 0, node(api.TrType, "", 0, alias(name), hole))), api.Fault{Code: api.ErrName, At: at})
	}
	if _, f := Check(inMain(node(api.TrSizeT, "", 0, node(api.TrType, "", 0, alias("T"), hole)))); f != (api.Fault{}) {
		t.Errorf("a type: %v", f)
	}
	spot := node(api.TrSizeT, "", 0, api.Tree{Kind: api.TrType, At: at, Sub: []api.Tree{alias("T"), node(api.TrFn, "", 0, hole)}})
	refusesTree(t, "a function's type", inMain(spot), api.Fault{Code: api.ErrDeclare, At: at})
}

// TestP10_1Bare: a tree without spots has the same program, and its faults have no spots.
func TestP10_1Bare(t *testing.T) {
	for first, code := range faulty() {
		text, _ := unmark(t, numbered(first, ""))
		refusesTree(t, text, tree.Bare(unitTree(t, text)), api.Fault{Code: code})
	}
	text := inMain(stock, "int x[] = { 1, i }; char *y = \"ab\"; return f(x[0], y) + gs().a;")
	want, _ := Text(text)
	if got, f := Check(tree.Bare(unitTree(t, text))); f != (api.Fault{}) || !reflect.DeepEqual(got, want) {
		t.Errorf("%v", f)
	}
}

// long is a text with something of everything.
const long = stock + "int *ip = (int[]){1, 2}; char *names[] = { \"a\", [3] = \"b\" }; struct T tt[] = { { 1 }, [2] = { .y = 3 } }; " +
	"int main(void) { int x[] = { 1, i }; char y[] = \"ab\"; struct S z = { .v = { 1, 2 }, .b = 3 }; for (int k = 0; k < 3; k++) { x[k] += z.v[1] ? sizeof \"abc\" : y[k]; if (!k) continue; } " +
	"static struct T w = { .x = 5 }; do { w.x--; } while (w.x > 0 && gs().c); (struct T){1, 2}; z = *sp; gn((union N){.z = \"q\"}); return f(x[0], y) + gs().a; }"

// TestP10_1Kept: what is handed in is not changed, and not part of the answer.
func TestP10_1Kept(t *testing.T) {
	x, same := unitTree(t, long), unitTree(t, long)
	p, f := Check(x)
	if f != (api.Fault{}) || !reflect.DeepEqual(x, same) {
		t.Fatalf("%v, or the tree was changed", f)
	}
	before, _ := Text(long)
	if !reflect.DeepEqual(p, before) {
		t.Error("Text answers otherwise")
	}
	everyNode(&x, func(x *api.Tree) { *x = api.Tree{Kind: -1, Text: "gone", Num: -1, Type: -1, Sub: x.Sub} })
	if !reflect.DeepEqual(p, before) {
		t.Error("the answer has changed with the tree")
	}
}

// TestP10_1Room: what room the lists of a tree have behind their ends is nobody's.
func TestP10_1Room(t *testing.T) {
	x, want := unitTree(t, long), unitTree(t, long)
	filled := node(api.TrName, "filled", 0)
	everyNode(&x, func(x *api.Tree) {
		n := len(x.Sub)
		x.Sub = append(slices.Clone(x.Sub), filled, filled)[:n]
	})
	p, f := Check(x)
	q, _ := Check(want)
	if f != (api.Fault{}) || !reflect.DeepEqual(p, q) {
		t.Errorf("%v", f)
	}
	everyNode(&x, func(x *api.Tree) {
		if all := x.Sub[:len(x.Sub)+2]; !reflect.DeepEqual(all[len(x.Sub)], filled) || !reflect.DeepEqual(all[len(x.Sub)+1], filled) {
			t.Fatal("the room behind a list was written to")
		}
	})
}

// lists hands on all lists of an answer.
func lists(p *api.Prog, bytes func([]byte), ints func([]int), trees func([]api.Tree), others func(n int, p any)) {
	for i := range p.Types {
		others(len(p.Types[i].Members), p.Types[i].Members)
	}
	for i := range p.Globals {
		bytes(p.Globals[i].Data.Bytes)
		others(len(p.Globals[i].Data.Relocs), p.Globals[i].Data.Relocs)
	}
	for i := range p.Funcs {
		ints(p.Funcs[i].Locals)
		everyNode(&p.Funcs[i].Body, func(x *api.Tree) { trees(x.Sub) })
	}
}

// TestP10_1NewMemory: no two lists of an answer share memory, and two answers share none.
func TestP10_1NewMemory(t *testing.T) {
	seen := map[uintptr]bool{}
	once := func(l any) {
		v := reflect.ValueOf(l)
		for i := range v.Len() {
			at := v.Index(i).Addr().Pointer()
			if seen[at] {
				t.Fatalf("a %s stands in two lists", v.Type())
			}
			seen[at] = true
		}
	}
	var all []api.Prog
	for range 2 {
		p, _ := Text(long)
		all = append(all, p)
		once(p.Types)
		once(p.Globals)
		once(p.Funcs)
		lists(&p, func(l []byte) { once(l) }, func(l []int) { once(l) }, func(l []api.Tree) { once(l) }, func(n int, l any) { once(l) })
	}
	if !reflect.DeepEqual(all[0], all[1]) {
		t.Error("the same text has another program")
	}
	if len(seen) < 500 {
		t.Errorf("only %d elements", len(seen))
	}
	one := all[0]
	lists(&one, func(l []byte) {
		for i := range l {
			l[i] = 0xee
		}
	}, func(l []int) {
		for i := range l {
			l[i] = -7
		}
	}, func(l []api.Tree) {
		for i := range l {
			l[i].Kind, l[i].Type = -7, -7
		}
	}, func(int, any) {})
	if again, _ := Text(long); !reflect.DeepEqual(again, all[1]) {
		t.Error("an answer was changed, and the next one with it")
	}
}

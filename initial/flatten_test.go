package initial

import (
	"fmt"
	"math"
	"slices"
	"strconv"
	"strings"
	"testing"

	"mortise/api"
	"mortise/ctype"
)

// wantFlat asks what Flatten answers of a type and a tree; with an error also that the table is as it was.
func wantFlat(t *testing.T, c *ctype.Table, what string, id int, x api.Tree, want string) {
	t.Helper()
	rows := c.Rows()
	l, whole, err := Flatten(c, id, x)
	if got := told(c, l, whole, err); got != want {
		t.Errorf("%s: got %.300s, want %.300s", what, got, want)
	}
	if err != api.OK && !sameRows(c.Rows(), rows) {
		t.Errorf("%s: with the error %d the table has turned", what, err)
	}
}

// TestP9_1NoTable: a table that no call made is refused ahead of everything else.
func TestP9_1NoTable(t *testing.T) {
	zero := new(ctype.Table)
	for _, c := range []*ctype.Table{nil, zero} {
		for _, id := range []int{-1, 0, idInt, 11, math.MaxInt} {
			for _, x := range []api.Tree{{}, num(), str("a"), list(), list(item(num())), list(item())} {
				wantFlat(t, c, "no table", id, x, "error 1")
			}
		}
	}
	if zero.Len() != 0 || zero.Rows() != nil {
		t.Errorf("the zero table has %d rows now", zero.Len())
	}
}

// wrongTrees are trees that initialise nothing.
func wrongTrees() []api.Tree {
	return []api.Tree{
		{}, {Kind: -1}, {Kind: math.MinInt}, {Kind: api.TrItem}, item(num()), item(), at(0), dot("a"), {Kind: api.TrAt, Sub: []api.Tree{num()}},
		list(num()), list(list()), list(item()), list(at(0)), list(dot("a")), list(str("a")), list(api.Tree{}), list(item(item(num()))),
		list(item(at(0))), list(item(dot("a"))), list(item(at(0), at(0))), list(item(num(), num())), list(item(list(), num())), list(item(api.Tree{}, num())), list(item(item(), num())),
		list(item(str("a"), num())), list(item(api.Tree{})), list(item(api.Tree{Kind: -6})), list(item(api.Tree{Kind: math.MinInt})), list(item(at(0), item(num()))),
		list(item(list(item()))), list(item(list(num()))), list(api.Tree{Kind: api.TrStr, Sub: []api.Tree{num()}}), list(api.Tree{Kind: 7, Sub: []api.Tree{num()}}), list(api.Tree{Kind: api.TrList, Sub: []api.Tree{num()}}),
	}
}

// TestP9_1NoType: what is no type, and types without a size, are refused ahead of what is wrong with the tree.
func TestP9_1NoType(t *testing.T) {
	c := ctype.New()
	open, _ := c.Struct("Open")
	union, _ := c.Union("Open")
	long, _ := c.Array(idChar, api.MaxSize)
	large, _ := c.Array(long, 2)
	untold, _ := c.Array(large, -1)
	pair, _ := c.Struct("Pair")
	c.Complete(pair, []api.Member{{Name: "a", Type: long, Bits: -1}, {Name: "b", Type: idChar, Bits: -1}})
	pairs, _ := c.Array(pair, -1)
	for _, x := range append(wrongTrees(), num(), list(), list(item(num())), str("a")) {
		for _, id := range []int{-1, math.MinInt, c.Len(), c.Len() + 1, math.MaxInt, 1<<32 + idInt, 512} {
			wantFlat(t, c, "no type", id, x, "error 30")
		}
		for _, id := range []int{idVoid, open, union} {
			wantFlat(t, c, "a type without a size", id, x, "error 50")
		}
		for _, id := range []int{large, untold, pair, pairs} {
			wantFlat(t, c, "a type that is too large", id, x, "error 51")
		}
	}
}

// kinds are types of all kinds that have a size, and arrays whose length is not told, of a new table.
func kinds(t *testing.T) (*ctype.Table, []int) {
	c, id, _ := read(t, "enum E {A} e; struct S {int a, b;} s; union U {int a; char b;} u; int *p; int a[2]; char x[3]; struct S l[]; int m[]; char n[]")
	ids := []int{idBool, idChar, idInt, idULong}
	for i := firstFree; i <= id; i++ {
		ids = append(ids, i)
	}
	return c, ids
}

// TestP9_1WrongTrees: trees of other kinds, and items and lists that are none, initialise nothing.
func TestP9_1WrongTrees(t *testing.T) {
	c, ids := kinds(t)
	for i, x := range wrongTrees() {
		for _, id := range ids {
			wantFlat(t, c, fmt.Sprint("tree ", i, " of type ", id), id, x, "error 90")
		}
	}
}

// TestP9_1AnyExpression: an expression is of any kind from 6 on, whatever hangs below it.
func TestP9_1AnyExpression(t *testing.T) {
	c, id, _ := read(t, "struct S {int a; int b;} s")
	for _, k := range []api.TreeKind{6, 7, 9, api.TrName, api.TrLit, api.TrUnit, api.TsBlock, api.TxConst, api.TxVoid, 1000, math.MaxInt} {
		x := api.Tree{Kind: k, Text: "x", Num: -5, Type: id, Sub: []api.Tree{item(), list()}}
		wantFlat(t, c, "an expression", id, x, "struct S | 0 struct S")
		wantFlat(t, c, "an expression", idInt, x, "int | 0 int")
		x.Type = -1
		wantFlat(t, c, "an expression of no type", id, list(item(x), item(dot("a"), x)), "struct S | 0 int 0.0 | 0 int 1.1")
		wantFlat(t, c, "an expression of no type", id, x, "error 90")
	}
	literal := api.Tree{Kind: api.TrStr, Type: id}
	wantFlat(t, c, "a string literal is no struct", id, literal, "error 90")
	wantFlat(t, c, "a nameless designator", id, list(item(dot(""), num())), "error 90")
}

// TestP9_1OddDesignators: the kind of a designator tells what it is, not what else it has.
func TestP9_1OddDesignators(t *testing.T) {
	c, s, _ := read(t, "int a[2]; struct S {int a, b;} s")
	a := firstFree
	for _, k := range []api.TreeKind{0, api.TrList, api.TrItem, api.TrAt, api.TrStr, api.TrName, -1} {
		odd := api.Tree{Kind: k, Text: "b", Num: 1}
		wantFlat(t, c, fmt.Sprint("a designator of kind ", k), s, list(item(odd, num())), "error 90")
	}
	for _, k := range []api.TreeKind{0, api.TrList, api.TrItem, api.TrDot, api.TrStr, api.TrName, -1} {
		odd := api.Tree{Kind: k, Text: "b", Num: 1}
		wantFlat(t, c, fmt.Sprint("a designator of kind ", k), a, list(item(odd, num())), "error 90")
	}
	both := api.Tree{Kind: api.TrDot, Text: "b", Num: -7, Sub: []api.Tree{num()}}
	wantFlat(t, c, "a name with a number", s, list(item(both, num())), "struct S | 4 int 0.1")
	both = api.Tree{Kind: api.TrAt, Text: "c", Num: 1, Sub: []api.Tree{num()}}
	wantFlat(t, c, "a number with a name", a, list(item(both, num())), "int [2] | 4 int 0.1")
}

// TestP9_1LaterTypes: of a table that From made the types of members may stand behind the array.
func TestP9_1LaterTypes(t *testing.T) {
	rows := ctype.New().Rows()
	rows = append(rows,
		api.TypeRow{Kind: api.TStruct, Tag: "S", Done: true, Members: []api.Member{{Name: "e", Type: 13, Bits: -1}, {Name: "c", Type: 14, Bits: -1}}},
		api.TypeRow{Kind: api.TArray, Elem: 11, Len: -1}, api.TypeRow{Kind: api.TEnum, Tag: "E"}, api.TypeRow{Kind: api.TArray, Elem: idChar, Len: 4})
	c, err := ctype.From(rows)
	if err != api.OK {
		t.Fatalf("From: error %d", err)
	}
	wantFlat(t, c, "later types", 12, list(item(num()), item(str("a")), item(num())), "struct S [2] | 0 enum E 0.0 | 4 char [4] 1.0 | 8 enum E 2.0")
}

// TestP9_1Order: the first refusal that is met is the answer.
func TestP9_1Order(t *testing.T) {
	wantTold(t, []example{
		{`int a[] = {[4096] = 1, .x = 1}`, "error 51"},
		{`int a[] = {.x = 1, [4096] = 1}`, "error 90"},
		{`int a[] = {[0][0] = 1, [4096] = 2}`, "error 90"},
		{`int a[] = {[4096] = {1, 2}}`, "error 51"},
		{`int a[] = {[4096].x = 1}`, "error 51"},
		{`int a[] = {[4095] = {1, 2}, [4096] = 1}`, "error 90"},
		{`int a[] = {[4095] = 1, {1, 2}}`, "error 51"},
		{`int a[][2] = {[2048][2] = 1}`, "error 51"},
		{`int a[][2] = {[2047][2] = 1}`, "error 90"},
		{`struct S {char c[3];} s[] = {[5461] = 1, "abcd"}`, "error 51"},
		{`struct S {char c[3];} s[] = {"abcd", [5461] = 1}`, "error 90"},
	})
}

// TestP9_1MaxSize: an array whose length is not told may have just MaxSize bytes, and not one element more.
func TestP9_1MaxSize(t *testing.T) {
	wantTold(t, []example{
		{`int a[] = {[4095] = 1}`, "int [4096] | 16380 int 0.1"},
		{`int a[] = {[4096] = 1}`, "error 51"},
		{`int a[] = {[4095] = 1, 2}`, "error 51"},
		{`int a[] = {[4095] = 1, [0] = 2}`, "int [4096] | 16380 int 0.1 | 0 int 1.1"},
		{`char a[] = {[16383] = 1}`, "char [16384] | 16383 char 0.1"},
		{`char a[] = {[16384] = 1}`, "error 51"},
		{`char a[] = {[2147483647] = 1}`, "error 51"},
		{`struct S {int a, b, c;} s[] = {[1364] = {1}}`, "struct S [1365] | 16368 int 0.1.0.0"},
		{`struct S {int a, b, c;} s[] = {[1365] = {1}}`, "error 51"},
		{`struct S {int a, b, c;} s[] = {[1364] = 1, 2, 3}`, "struct S [1365] | 16368 int 0.1 | 16372 int 1.0 | 16376 int 2.0"},
		{`struct S {int a, b, c;} s[] = {[1364] = 1, 2, 3, 4}`, "error 51"},
		{`struct S {int a, b, c;} s[] = {[1364].c = 1, 2}`, "error 51"},
		{`char a[][16384] = {"a"}`, "char [1][16384] | 0 char [16384] 0.0"},
		{`char a[][16384] = {"a", "b"}`, "error 51"},
		{`char a[][16384] = {[1] = "b"}`, "error 51"},
		{`char a[][16384] = {[1] = none}`, "error 51"},
		{`char a[][8193] = {none, none}`, "error 51"},
		{`char a[][8192] = {none, none}`, "char [2][8192]"},
		{`char a[][8192] = {none, none, none}`, "error 51"},
	})
	c, id, _ := read(t, "int a[]")
	for _, n := range []int{1 << 31, 1 << 32, 1<<32 + 1, 1 << 62, math.MaxInt - 1, math.MaxInt} {
		wantFlat(t, c, "a designator of "+strconv.Itoa(n), id, list(item(at(n), num())), "error 51")
	}
	for _, n := range []int{-1, -4095, -1 << 31, -1 << 32, math.MinInt, math.MinInt + 1} {
		wantFlat(t, c, "a designator of "+strconv.Itoa(n), id, list(item(at(n), num())), "error 90")
	}
	c, id, _ = read(t, "int a[3]")
	for _, n := range []int{3, -1, 1 << 32, 1<<32 + 1, 1 << 62, math.MaxInt, math.MinInt} {
		wantFlat(t, c, "a designator of "+strconv.Itoa(n), id, list(item(at(n), num())), "error 90")
	}
}

// TestP9_1LongLiterals: a literal and the 0 behind it may have just MaxSize bytes; of a told length the 0 needs no room.
func TestP9_1LongLiterals(t *testing.T) {
	most := strings.Repeat("x", api.MaxSize)
	for _, e := range []struct {
		text  string
		n     int
		want  string
		table int
	}{
		{"char a[]", api.MaxSize - 2, "char [16383] | 0 char [16383]", 1},
		{"char a[]", api.MaxSize - 1, "char [16384] | 0 char [16384]", 1},
		{"char a[]", api.MaxSize, "error 51", 0},
		{"char a[16384]", api.MaxSize, "char [16384] | 0 char [16384]", 0},
		{"char a[16383]", api.MaxSize, "error 90", 0},
		{"char a[16384]", api.MaxSize - 1, "char [16384] | 0 char [16384]", 0},
	} {
		c, id, _ := read(t, e.text)
		rows := c.Len()
		wantFlat(t, c, e.text, id, str(most[:e.n]), e.want)
		if c.Len() != rows+e.table {
			t.Errorf("%s by %d bytes: %d rows, then %d", e.text, e.n, rows, c.Len())
		}
		in := strings.ReplaceAll(e.want, "| 0 char [16384]", "| 0 char [16384] 0.0")
		in = strings.ReplaceAll(in, "| 0 char [16383]", "| 0 char [16383] 0.0")
		wantFlat(t, c, e.text+" in braces", id, list(item(str(most[:e.n]))), in)
	}
	c, id, _ := read(t, "char a[]")
	long := str(strings.Repeat("x", 1<<20))
	wantFlat(t, c, "a longer literal", id, long, "error 51")
	wantFlat(t, c, "a longer literal of a char", id, list(item(long), item(num())), "char [2] | 0 char 0.0 | 1 char 1.0")
}

// leafOffs are the places of leaves.
func leafOffs(l []api.Leaf) (offs []int) {
	for _, x := range l {
		offs = append(offs, x.Off)
	}
	return offs
}

// upTo are the numbers from 0 below n.
func upTo(n int) (l []int) {
	for i := range n {
		l = append(l, i)
	}
	return l
}

// TestP9_1MaxLeaves: just MaxLeaves leaves, and one more, at the place where that is met.
func TestP9_1MaxLeaves(t *testing.T) {
	const most = api.MaxLeaves
	c, open, _ := read(t, "char told[4096]; char more[5000]; char texts[5000][1]; struct S {char a[4096], b;} s; char open[]")
	told, more, texts, s := firstFree, firstFree+1, firstFree+3, firstFree+4
	for _, id := range []int{told, more, open, s} {
		l, _, err := Flatten(c, id, list(nums(most)...))
		if err != api.OK || !slices.Equal(leafOffs(l), upTo(most)) {
			t.Errorf("type %d with MaxLeaves items: %d leaves, error %d", id, len(l), err)
		}
	}
	again := slices.Repeat([]api.Tree{item(at(1), num())}, most)
	if l, _, err := Flatten(c, told, list(again...)); len(l) != most || err != api.OK {
		t.Errorf("one part by MaxLeaves items: %d leaves, error %d", len(l), err)
	}
	wrong := item(at(-1), num())
	wantFlat(t, c, "one part once more", told, list(append(again, again[0])...), "error 51")
	wantFlat(t, c, "one item more than elements", told, list(nums(most+1)...), "error 90")
	wantFlat(t, c, "one leaf more", more, list(nums(most+1)...), "error 51")
	wantFlat(t, c, "one leaf more, and a wrong item", more, list(append(nums(most+1), wrong)...), "error 51")
	wantFlat(t, c, "a wrong item ahead of one leaf more", more, list(append(nums(most), wrong, item(num()))...), "error 90")
	wantFlat(t, c, "one leaf more in a list of its own", more, list(append(nums(most), item(list(item(num()))))...), "error 51")
	wantFlat(t, c, "one leaf more of an array whose length is not told", open, list(nums(most+1)...), "error 51")
	wantFlat(t, c, "one leaf more in another member", s, list(append([]api.Tree{item(list(nums(most)...))}, nums(1)...)...), "error 51")
	wantFlat(t, c, "a literal too many", texts, list(append(nums(most), item(str("a")))...), "error 51")
	wantFlat(t, c, "a literal too many that is too long", texts, list(append(nums(most), item(str("ab")))...), "error 90")
	if l, _, err := Flatten(c, texts, list(append(nums(most), item(list()), item(at(0), list()))...)); len(l) != most || err != api.OK {
		t.Errorf("empty lists behind MaxLeaves leaves: %d leaves, error %d", len(l), err)
	}
}

// TestP9_1Full: where the table has no room for the array's type, nothing is answered, unless it has it already.
func TestP9_1Full(t *testing.T) {
	c, open, _ := read(t, "char told[3]; int all[4]; int ints[]; char open[]")
	ints := firstFree + 2
	for c.Len() < api.MaxTypes-1 {
		c.Enum("E")
	}
	last := c.Copy()
	wantFlat(t, last, "room for one more", open, str("abc"), "char [4] | 0 char [4]")
	if last.Len() != api.MaxTypes {
		t.Errorf("%d rows", last.Len())
	}
	wantFlat(t, last, "no room for another one", ints, list(nums(3)...), "error 32")
	c.Enum("E")
	wantFlat(t, c, "no room", open, str("abc"), "error 32")
	wantFlat(t, c, "no room", open, list(item(str("abc"))), "error 32")
	wantFlat(t, c, "no room", open, list(nums(4)...), "error 32")
	wantFlat(t, c, "no room", ints, list(item(at(6), num())), "error 32")
	wantFlat(t, c, "no room needed", open, str("ab"), "char [3] | 0 char [3]")
	wantFlat(t, c, "no room needed", open, list(nums(3)...), "char [3] | 0 char 0.0 | 1 char 1.0 | 2 char 2.0")
	wantFlat(t, c, "no room needed", ints, list(item(at(3), num())), "int [4] | 12 int 0.1")
	wantFlat(t, c, "no room needed", firstFree, str("ab"), "char [3] | 0 char [3]")
	wantFlat(t, c, "a wrong item ahead", ints, list(item(num()), item(dot("a"), num())), "error 90")
	wantFlat(t, c, "an element too many ahead", ints, list(item(at(4096), num())), "error 51")
	wantFlat(t, c, "a leaf too many ahead", open, list(nums(api.MaxLeaves+1)...), "error 51")
	wantFlat(t, c, "a literal too long ahead", open, str(strings.Repeat("x", api.MaxSize)), "error 51")
}

// TestP9_1SameTable: what the table has is found again, and a second call answers the same.
func TestP9_1SameTable(t *testing.T) {
	c, id, x := read(t, "int a[] = {[1] = 1, 2, {3}}")
	l, first, err := Flatten(c, id, x)
	rows := c.Rows()
	if err != api.OK || first != len(rows)-1 || fmt.Sprint(rows[first]) != fmt.Sprint(api.TypeRow{Kind: api.TArray, Elem: idInt, Len: 4}) {
		t.Fatalf("type %d, error %d, rows %v", first, err, rows)
	}
	m, second, err := Flatten(c, id, x)
	if err != api.OK || second != first || fmt.Sprint(m) != fmt.Sprint(l) || !sameRows(c.Rows(), rows) {
		t.Errorf("once more: %v, type %d, error %d; at first: %v, type %d", m, second, err, l, first)
	}
}

// TestP9_1Memory: ways are new memory, each of its own, and the initialiser is not changed.
func TestP9_1Memory(t *testing.T) {
	const text = "int a[][2] = {{1, {2}}, 3, 4, [4][1] = 5}"
	c, id, x := read(t, text)
	before := fmt.Sprint(x)
	l, whole, err := Flatten(c, id, x)
	want := told(c, l, whole, err)
	for i := range l {
		w := append(l[i].Way, -1, -2, -3)
		for j := range w {
			w[j] = -9
		}
	}
	again, _, _ := Flatten(c, id, x)
	if got := told(c, again, whole, err); got != want {
		t.Errorf("got %s, want %s", got, want)
	}
	for i := range again {
		for j := range again[i].Way {
			again[i].Way[j] = 100 * i
		}
	}
	for i, leaf := range again {
		if slices.ContainsFunc(leaf.Way, func(n int) bool { return n != 100*i }) {
			t.Errorf("the way of leaf %d is another one's, too: %v", i, leaf.Way)
		}
	}
	if fmt.Sprint(x) != before {
		t.Errorf("the initialiser was %s and is %v", before, x)
	}
}

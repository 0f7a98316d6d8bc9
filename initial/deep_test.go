package initial

import (
	"slices"
	"strconv"
	"strings"
	"testing"

	"mortise/api"
	"mortise/ctype"
)

// deepest is a table full of structs and arrays within each other, and the last of them.
func deepest() (*ctype.Table, int) {
	c := ctype.New()
	id := idInt
	for c.Len()+2 <= api.MaxTypes {
		s, _ := c.Struct("S")
		c.Complete(s, []api.Member{{Name: "a", Type: id, Bits: -1}})
		id, _ = c.Array(s, 1)
	}
	return c, id
}

// TestP9_3Deep: as many aggregates within each other as a table has.
func TestP9_3Deep(t *testing.T) {
	c, id := deepest()
	name, _ := c.Declare(id, "")
	wantFlat(t, c, "without braces", id, list(item(num())), name+" | 0 int 0.0")
	wantFlat(t, c, "without braces, one more", id, list(item(num()), item(num())), "error 90")
	var way []api.Tree
	x := num()
	for range c.Len()/2 - firstFree/2 {
		way = append(way, at(0), dot("a"))
		x = list(item(list(item(x))))
	}
	steps := strconv.Itoa(len(way))
	wantFlat(t, c, "by designators", id, list(item(append(way, num())...)), name+" | 0 int 0."+steps)
	wantFlat(t, c, "by a designator too many", id, list(item(append(way, at(0), num())...)), "error 90")
	braces := strings.Repeat(".0.0", len(way))[1:]
	wantFlat(t, c, "with braces", id, x, name+" | 0 int "+braces)
	wantFlat(t, c, "with braces round the scalar, too", id, bracedDeep(len(way)+1, num()), name+" | 0 int "+braces+".0.0")
	wantFlat(t, c, "with more braces", id, bracedDeep(len(way)+2, num()), "error 90")
	wantFlat(t, c, "with many more braces", id, bracedDeep(1<<16, num()), "error 90")
}

// bracedDeep is an expression within so many lists.
func bracedDeep(n int, x api.Tree) api.Tree {
	for range n {
		x = list(item(x))
	}
	return x
}

// TestP9_3Many: long lists of items that make no leaf come to an end soon.
func TestP9_3Many(t *testing.T) {
	c, id, _ := read(t, "struct S {int a[4]; struct T {int b;} t[4];} s[]")
	x := list(slices.Repeat([]api.Tree{item(at(1), dot("t"), at(3), list())}, 1<<18)...)
	wantFlat(t, c, "empty lists", id, x, "struct S [2]")
	x = list(item(append(slices.Repeat([]api.Tree{at(1)}, 1<<18), num())...))
	wantFlat(t, c, "designators", id, x, "error 90")
	c, id = deepest()
	again := slices.Repeat([]api.Tree{item(at(0), num())}, api.MaxLeaves)
	if l, _, err := Flatten(c, id, list(again...)); len(l) != api.MaxLeaves || err != api.OK {
		t.Errorf("deep leaves: %d, error %d", len(l), err)
	}
}

// TestP9_4Many: long lists of leaves over one another come to an end soon.
func TestP9_4Many(t *testing.T) {
	c, id, _ := read(t, "int *p; char a[16384]")
	p := firstFree
	leaves := slices.Repeat([]api.Leaf{{Type: id}, {Type: p}, {Off: 16380, Type: p}, {Off: 8192, Bit: 9, Bits: 3, Type: idInt}}, 1<<15)
	values := slices.Repeat([]api.Const{text("a"), address(1, 2), address(3, 4), number(7)}, 1<<15)
	for off := 0; off < 16384; off += 4 {
		leaves, values = append(leaves, api.Leaf{Off: 16380 - off, Type: p}), append(values, address(off, 0))
	}
	d, err := Image(c, id, leaves, values)
	if err != api.OK || len(d.Relocs) != 4096 || slices.ContainsFunc(d.Bytes, func(b byte) bool { return b != 0 }) {
		t.Fatalf("%d relocations, error %d", len(d.Relocs), err)
	}
	for i, r := range d.Relocs {
		if r != (api.Reloc{Off: 4 * i, Global: 16380 - 4*i}) {
			t.Errorf("relocation %d is %v", i, r)
		}
	}
}

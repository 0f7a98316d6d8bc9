package initial

import (
	"fmt"
	"slices"
	"strconv"
	"strings"
	"testing"

	"mortise/api"
	"mortise/ctype"
	"mortise/parse"
)

// The basic types' numbers.
const (
	idVoid = iota
	idBool
	idChar
	idSChar
	idUChar
	idShort
	idUShort
	idInt
	idUInt
	idLong
	idULong
	firstFree
)

// reader makes types and initialisers of C's declarations: just as much of layer 10 as the tests here need.
type reader struct {
	*ctype.Table
	t     testing.TB
	tags  map[string]int
	names map[string]int // the types of what has been declared
}

// read answers the table of a text's types, the type of what it declares last, and the initialiser of that. A name is an expression of the type that it was declared with, or of int, `none` an empty list, `(T) {0}` an expression of type T.
func read(t testing.TB, text string) (*ctype.Table, int, api.Tree) {
	t.Helper()
	unit, fault := parse.Unit(text + ";")
	if fault.Code != api.OK {
		t.Fatalf("%s: fault %v", text, fault)
	}
	r := &reader{Table: ctype.New(), t: t, tags: map[string]int{}, names: map[string]int{}}
	id, x := 0, api.Tree{}
	for _, decl := range unit.Sub {
		base := r.specified(decl.Sub[0])
		for _, v := range decl.Sub[1:] {
			id = r.declared(v.Sub[0], base)
			r.names[v.Text] = id
			if len(v.Sub) > 1 {
				x = r.initialiser(v.Sub[1])
			}
		}
	}
	return r.Table, id, x
}

// took answers a type's number, if it was not refused.
func (r *reader) took(id int, err api.Errno) int {
	r.t.Helper()
	if err != api.OK {
		r.t.Fatalf("a type was refused: %d", err)
	}
	return id
}

// specified is the type of a specifier.
func (r *reader) specified(x api.Tree) int {
	if x.Kind == api.TrBase {
		return slices.Index([]string{"void", "_Bool", "char", "signed char", "unsigned char", "short", "unsigned short", "int", "unsigned int", "long", "unsigned long"}, x.Text)
	}
	if id, ok := r.tags[x.Text]; ok && x.Text != "" {
		return id
	}
	tag := x.Text
	if tag == "" {
		tag = "#" + strconv.Itoa(r.Len())
	}
	id := r.took([]func(string) (int, api.Errno){r.Struct, r.Union, r.Enum}[x.Num-1](tag))
	r.tags[tag] = id
	if x.Num < 3 && len(x.Sub) > 0 {
		r.took(id, r.Complete(id, r.members(x.Sub[0])))
	}
	return id
}

// members are the members of a body.
func (r *reader) members(body api.Tree) []api.Member {
	var l []api.Member
	for _, fields := range body.Sub {
		base := r.specified(fields.Sub[0])
		for _, f := range fields.Sub[1:] {
			m := api.Member{Name: f.Text, Type: r.declared(f.Sub[0], base), Bits: -1}
			if len(f.Sub) > 1 {
				m.Bits = f.Sub[1].Num
			}
			l = append(l, m)
		}
	}
	return l
}

// declared is the type of a declarator.
func (r *reader) declared(x api.Tree, base int) int {
	if x.Kind == api.TrHole {
		return base
	}
	id := r.declared(x.Sub[0], base)
	switch {
	case x.Kind == api.TrPtr:
		return r.took(r.Ptr(id))
	case len(x.Sub) < 2:
		return r.took(r.Array(id, -1))
	}
	return r.took(r.Array(id, x.Sub[1].Num))
}

// initialiser is an initialiser as layer 10 hands it down: its designators reckoned, its expressions typed.
func (r *reader) initialiser(x api.Tree) api.Tree {
	switch {
	case x.Kind == api.TrName && x.Text == "none":
		return api.Tree{Kind: api.TrList}
	case x.Kind == api.TrStr:
		return x
	case x.Kind == api.TrAt && x.Sub[0].Kind == api.TrUn:
		x.Num = -x.Sub[0].Sub[0].Num
	case x.Kind == api.TrAt:
		x.Num = x.Sub[0].Num
	case x.Kind == api.TrLit:
		x.Type = r.declared(x.Sub[0].Sub[1], r.specified(x.Sub[0].Sub[0]))
	case x.Kind >= api.TrName:
		x.Type = idInt
		if id, ok := r.names[x.Text]; ok && x.Kind == api.TrName {
			x.Type = id
		}
	default:
		x.Sub = slices.Clone(x.Sub)
		for i := range x.Sub {
			x.Sub[i] = r.initialiser(x.Sub[i])
		}
	}
	return x
}

// told writes what Flatten has answered: the type, then leaf by leaf its place, its type and its way.
func told(c *ctype.Table, l []api.Leaf, id int, err api.Errno) string {
	if err != api.OK {
		if len(l) != 0 || id != 0 {
			return fmt.Sprint("error ", err, ", but beside it ", l, id)
		}
		return "error " + strconv.Itoa(int(err))
	}
	name := func(id int) string { s, _ := c.Declare(id, ""); return s }
	out := []string{name(id)}
	for _, x := range l {
		s := strconv.Itoa(x.Off)
		if x.Bit != 0 || x.Bits != 0 {
			s += fmt.Sprint(":", x.Bit, "+", x.Bits)
		}
		way := strings.Trim(fmt.Sprint(x.Way), "[]")
		out = append(out, strings.TrimSpace(s+" "+name(x.Type)+" "+strings.ReplaceAll(way, " ", ".")))
	}
	return strings.Join(out, " | ")
}

// example is a text, and what Flatten is to answer.
type example struct{ text, want string }

// wantTold asks what Flatten answers, that the table has no row more but that of an array whose length was not told, and that the initialiser stays as it was.
func wantTold(t *testing.T, examples []example) {
	t.Helper()
	for _, e := range examples {
		c, id, x := read(t, e.text)
		rows, before := c.Rows(), fmt.Sprint(x)
		l, whole, err := Flatten(c, id, x)
		if got := told(c, l, whole, err); got != e.want {
			t.Errorf("%s:\n got %s\nwant %s", e.text, got, e.want)
		}
		if err == api.OK && whole == len(rows) {
			rows = append(rows, c.Rows()[whole])
		}
		if !sameRows(c.Rows(), rows) {
			t.Errorf("%s: the table had %v and has %v", e.text, rows, c.Rows())
		}
		if fmt.Sprint(x) != before {
			t.Errorf("%s: the initialiser was %s and is %v", e.text, before, x)
		}
	}
}

// sameRows tells whether two tables have the same rows.
func sameRows(a, b []api.TypeRow) bool { return fmt.Sprint(a) == fmt.Sprint(b) }

// These make nodes of initialisers; nums are so many items.
func num() api.Tree               { return api.Tree{Kind: api.TxConst, Type: idInt} }
func str(s string) api.Tree       { return api.Tree{Kind: api.TrStr, Text: s} }
func list(l ...api.Tree) api.Tree { return api.Tree{Kind: api.TrList, Sub: l} }
func item(l ...api.Tree) api.Tree { return api.Tree{Kind: api.TrItem, Sub: l} }
func at(n int) api.Tree           { return api.Tree{Kind: api.TrAt, Num: n} }
func dot(name string) api.Tree    { return api.Tree{Kind: api.TrDot, Text: name} }
func nums(n int) []api.Tree       { return slices.Repeat([]api.Tree{item(num())}, n) }

package ctype

import (
	"regexp"
	"strings"
	"testing"

	"mortise/api"
)

func TestP3_1New(t *testing.T) {
	c := New()
	if c.Len() != 11 || len(c.Rows()) != 11 {
		t.Fatalf("a new table has %d types", c.Len())
	}
	kinds := []api.TypeKind{api.TVoid, api.TBool, api.TChar, api.TSChar, api.TUChar, api.TShort, api.TUShort, api.TInt, api.TUInt, api.TLong, api.TULong}
	for i, k := range kinds {
		row, ok := c.Row(i)
		if !ok || !sameRow(row, api.TypeRow{Kind: k}) || !sameRow(c.Rows()[i], row) {
			t.Errorf("row %d is %v, %v", i, row, ok)
		}
	}
	if kinds[0] != api.TVoid || kinds[7] != api.TInt {
		t.Error("void is 0, int is 7")
	}
}

func TestP3_1TwoTables(t *testing.T) {
	a, b := New(), New()
	id(t)(a.Ptr(idInt))
	s := id(t)(a.Struct("S"))
	if b.Len() != 11 {
		t.Errorf("a type of one table stands in another: %v", b.Rows())
	}
	if err := b.Complete(s, []api.Member{member("a", idInt)}); err != api.ErrType {
		t.Error(err)
	}
	if got := id(t)(b.Ptr(idChar)); got != 11 {
		t.Error(got)
	}
	if got := id(t)(b.Ptr(idInt)); got != 12 {
		t.Error(got)
	}
}

// TestP3_1NoTable asks every call of tables that no call made.
func TestP3_1NoTable(t *testing.T) {
	for _, c := range []*Table{nil, {}, new(Table)} {
		for _, n := range []int{-1, 0, 7, 11, 512} {
			if row, ok := c.Row(n); ok || !sameRow(row, api.TypeRow{}) {
				t.Errorf("Row(%d) = %v, %v", n, row, ok)
			}
			if c.Whole(n) || c.Scalar(n) {
				t.Errorf("Whole or Scalar of %d", n)
			}
			noTableMakes(t, c, n)
			for _, members := range [][]api.Member{nil, {member("a", idInt)}, manyMembers(65)} {
				if err := c.Complete(n, members); err != api.ErrNil {
					t.Errorf("Complete(%d) = %d", n, err)
				}
			}
			for _, name := range []string{"", "x", "1"} {
				if s, err := c.Declare(n, name); s != "" || err != api.ErrNil {
					t.Errorf("Declare(%d, %q) = %q, %d", n, name, s, err)
				}
			}
		}
		if c.Len() != 0 || len(c.Rows()) != 0 || c.Copy() != nil {
			t.Errorf("Len %d, Rows %v, Copy %v", c.Len(), c.Rows(), c.Copy())
		}
		if c != nil && (c.rows != nil || c.found != nil) {
			t.Error("a table that no call made was changed")
		}
	}
}

// noTableMakes asks the calls that make types of a table that no call made.
func noTableMakes(t *testing.T, c *Table, n int) {
	t.Helper()
	got, err := c.Basic(api.TypeKind(n))
	wantRefused(t, "Basic", got, err, api.ErrNil)
	got, err = c.Ptr(n)
	wantRefused(t, "Ptr", got, err, api.ErrNil)
	for _, length := range []int{-1, 0, 3} {
		got, err = c.Array(n, length)
		wantRefused(t, "Array", got, err, api.ErrNil)
	}
	for _, tag := range []string{"S", "", "1"} {
		got, err = c.Enum(tag)
		wantRefused(t, "Enum", got, err, api.ErrNil)
		got, err = c.Struct(tag)
		wantRefused(t, "Struct", got, err, api.ErrNil)
		got, err = c.Union(tag)
		wantRefused(t, "Union", got, err, api.ErrNil)
	}
}

func TestP3_1Tag(t *testing.T) {
	for _, s := range goodTags() {
		if !Tag(s) {
			t.Errorf("%q is a tag", s)
		}
	}
	for _, s := range badTags() {
		if Tag(s) {
			t.Errorf("%q is no tag", s)
		}
	}
	for n := range 200 {
		if got, want := Tag(strings.Repeat("a", n)), 1 <= n && n <= 63; got != want {
			t.Errorf("%d letters: %v", n, got)
		}
		if got, want := Tag("#"+strings.Repeat("7", n)), 1 <= n && n <= 9; got != want {
			t.Errorf("# and %d digits: %v", n, got)
		}
	}
}

// TestP3_1TagBytes holds Tag against a pattern, at every byte first, behind a letter and behind `#`, and at all short texts of some bytes.
func TestP3_1TagBytes(t *testing.T) {
	shape := regexp.MustCompile(`^(?:[a-zA-Z_][a-zA-Z0-9_]{0,62}|#[0-9]{1,9})$`)
	ask := func(s string) {
		if got, want := Tag(s), shape.MatchString(s) && !strings.HasSuffix(s, "\n"); got != want {
			t.Errorf("Tag(%q) = %v", s, got)
		}
	}
	for c := range 256 {
		one := string([]byte{byte(c)})
		for _, s := range []string{one, "a" + one, one + "a", "#" + one, "#1" + one, one + "1", "a" + one + "b", "#1" + one + "1", one + one} {
			ask(s)
		}
	}
	const letters = "aZ_09#/:@[`{ "
	var all func(s string, left int)
	all = func(s string, left int) {
		ask(s)
		for i := 0; i < len(letters) && left > 0; i++ {
			all(s+letters[i:i+1], left-1)
		}
	}
	all("", 4)
}

// TestP3_4WholeAndScalar asks of a type of each kind, done and not.
func TestP3_4WholeAndScalar(t *testing.T) {
	c, n := sample(t)
	type facts struct{ whole, scalar bool }
	want := map[int]facts{idVoid: {false, false}}
	for k := idBool; k <= idULong; k++ {
		want[k] = facts{true, true}
	}
	for name, f := range map[string]facts{
		"struct S": {true, false}, "union U": {true, false}, "struct open": {false, false}, "union #3": {false, false}, "enum E": {true, true},
		"struct S *": {true, true}, "void *": {true, true}, "struct open *": {true, true}, "int (*)[3]": {true, true}, "int (*)[]": {true, true},
		"int [3]": {true, false}, "int []": {false, false}, "struct S [2]": {true, false},
	} {
		want[n[name]] = f
	}
	if len(want) != c.Len() {
		t.Fatalf("%d types, %d asked", c.Len(), len(want))
	}
	for k, f := range want {
		if c.Whole(k) != f.whole || c.Scalar(k) != f.scalar {
			t.Errorf("type %d: whole %v, scalar %v, want %v", k, c.Whole(k), c.Scalar(k), f)
		}
	}
	for _, k := range noTypes(c.Len()) {
		if c.Whole(k) || c.Scalar(k) {
			t.Errorf("%d is no type", k)
		}
	}
}

func TestP3_4WholeWhenDone(t *testing.T) {
	c := New()
	for _, make := range []func(string) (int, api.Errno){c.Struct, c.Union} {
		s := id(t)(make("S"))
		if c.Whole(s) {
			t.Error("whole without members")
		}
		if err := c.Complete(s, nil); err != api.ErrArg || c.Whole(s) {
			t.Error("whole by a call that was refused", err)
		}
		if err := c.Complete(s, manyMembers(1)); err != api.OK || !c.Whole(s) || c.Scalar(s) {
			t.Error("not whole with members", err)
		}
	}
}

func TestP3_4Row(t *testing.T) {
	c, n := sample(t)
	want := api.TypeRow{Kind: api.TStruct, Tag: "S", Done: true, Members: []api.Member{
		{Name: "next", Type: n["struct S *"], Bits: -1}, {Name: "b", Type: idUInt, Bits: 5}, {Type: idInt}, {Name: "a", Type: n["int [3]"], Bits: -1}, {Type: idChar, Bits: 8},
	}}
	for name, want := range map[string]api.TypeRow{
		"struct S": want, "struct open": {Kind: api.TStruct, Tag: "open"}, "union #3": {Kind: api.TUnion, Tag: "#3"}, "enum E": {Kind: api.TEnum, Tag: "E"},
		"void *": {Kind: api.TPtr}, "int [3]": {Kind: api.TArray, Elem: idInt, Len: 3}, "int []": {Kind: api.TArray, Elem: idInt, Len: -1},
		"struct S *": {Kind: api.TPtr, Elem: n["struct S"]}, "struct S [2]": {Kind: api.TArray, Elem: n["struct S"], Len: 2},
	} {
		if row, ok := c.Row(n[name]); !ok || !sameRow(row, want) {
			t.Errorf("Row of %s = %v, %v, want %v", name, row, ok, want)
		}
	}
	for _, k := range noTypes(c.Len()) {
		if row, ok := c.Row(k); ok || !sameRow(row, api.TypeRow{}) {
			t.Errorf("Row(%d) = %v, %v", k, row, ok)
		}
	}
}

func TestP3_4Rows(t *testing.T) {
	c, _ := sample(t)
	rows := c.Rows()
	if len(rows) != c.Len() || c.Len() != 11+13 {
		t.Fatalf("%d rows, %d types", len(rows), c.Len())
	}
	for i := range rows {
		if row, ok := c.Row(i); !ok || !sameRow(row, rows[i]) {
			t.Errorf("row %d: %v and %v", i, row, rows[i])
		}
	}
}

// TestP3_4NewMemory writes over all that was answered and all that was handed in.
func TestP3_4NewMemory(t *testing.T) {
	c, n := sample(t)
	same := unchanged(t, c)
	row, _ := c.Row(n["struct S"])
	clear(row.Members)
	same("writing into a row")
	_ = append(row.Members[:1], member("more", idInt))
	same("writing behind a row's end")
	rows := c.Rows()
	for _, row := range rows {
		clear(row.Members)
	}
	clear(rows)
	same("writing into rows")
	given := manyMembers(3)
	if err := c.Complete(n["struct open"], given); err != api.OK {
		t.Fatal(err)
	}
	same = unchanged(t, c)
	clear(given)
	same("writing into members that were handed in")
}

func TestP3_4Copy(t *testing.T) {
	c, n := sample(t)
	d := c.Copy()
	if d == c || !sameRows(c.Rows(), d.Rows()) || d.Len() != c.Len() {
		t.Fatal("a copy is another table")
	}
	if got := id(t)(d.Array(idInt, 3)); got != n["int [3]"] {
		t.Error("a copy does not find its rows:", got)
	}
	same := unchanged(t, c)
	extra := id(t)(d.Ptr(idShort))
	if err := d.Complete(n["struct open"], manyMembers(2)); err != api.OK {
		t.Error(err)
	}
	id(t)(d.Union("V"))
	same("what was done to a copy")
	if c.Whole(n["struct open"]) {
		t.Error("done by its copy")
	}
	same = unchanged(t, d)
	if got := id(t)(c.Ptr(idLong)); got != extra {
		t.Errorf("%d, want the number behind the others, %d", got, extra)
	}
	if got := id(t)(c.Ptr(idShort)); got != extra+1 {
		t.Errorf("%d, want %d: the copy's pointer is not this table's", got, extra+1)
	}
	if err := c.Complete(n["union #3"], manyMembers(1)); err != api.OK {
		t.Error(err)
	}
	same("what was done to the first")
	if got := id(t)(d.Ptr(idShort)); got != extra {
		t.Error(got)
	}
}

package ctype

import (
	"math"
	"slices"
	"strings"
	"testing"

	"mortise/api"
)

// wantFrom asks whether rows make a table, which then has just these rows, and finds them.
func wantFrom(t *testing.T, what string, rows []api.TypeRow, want bool) {
	t.Helper()
	given := deep(rows)
	c, err := From(rows)
	if !sameRows(given, rows) {
		t.Errorf("%s: From changed what it was given", what)
	}
	if !want {
		if c != nil || err != api.ErrType {
			t.Errorf("%s: From(%v) = %v, %d, want it refused", what, rows, c, err)
		}
		return
	}
	if c == nil || err != api.OK || !sameRows(c.Rows(), rows) {
		t.Errorf("%s: From(%v) = %v, %d", what, rows, c, err)
		return
	}
	same := unchanged(t, c)
	for i, row := range rows {
		found := i
		if row.Kind == api.TPtr {
			found = id(t)(c.Ptr(row.Elem))
		} else if row.Kind == api.TArray {
			found = id(t)(c.Array(row.Elem, row.Len))
		}
		if found != i {
			t.Errorf("%s: row %d is found at %d", what, i, found)
		}
	}
	same(what)
}

// with are the basic types and these rows, from 11 on.
func with(rows ...api.TypeRow) []api.TypeRow { return append(New().Rows(), rows...) }

// structOf is a struct that is done.
func structOf(tag string, types ...int) api.TypeRow {
	row := api.TypeRow{Kind: api.TStruct, Tag: tag, Done: true}
	for i, k := range types {
		row.Members = append(row.Members, member("m"+string(rune('a'+i)), k))
	}
	return row
}

// unionOf is a union that is done.
func unionOf(tag string, types ...int) api.TypeRow {
	row := structOf(tag, types...)
	row.Kind = api.TUnion
	return row
}

// ptrTo and arrayOf are rows of pointers and arrays.
func ptrTo(elem int) api.TypeRow { return api.TypeRow{Kind: api.TPtr, Elem: elem} }

func arrayOf(elem int, n int) api.TypeRow {
	return api.TypeRow{Kind: api.TArray, Elem: elem, Len: n}
}

func TestP3_5Basics(t *testing.T) {
	wantFrom(t, "basic types", with(), true)
	wantFrom(t, "nil", nil, false)
	wantFrom(t, "empty", []api.TypeRow{}, false)
	for n := range 11 {
		wantFrom(t, "too few", with()[:n], false)
		for _, turn := range []func(r *api.TypeRow){
			func(r *api.TypeRow) { r.Elem = 1 }, func(r *api.TypeRow) { r.Elem = -1 }, func(r *api.TypeRow) { r.Len = -1 }, func(r *api.TypeRow) { r.Len = 4 },
			func(r *api.TypeRow) { r.Tag = "int" }, func(r *api.TypeRow) { r.Done = true }, func(r *api.TypeRow) { r.Members = manyMembers(1) },
			func(r *api.TypeRow) { r.Kind++ }, func(r *api.TypeRow) { r.Kind-- }, func(r *api.TypeRow) { r.Kind = 0 }, func(r *api.TypeRow) { r.Kind = api.TEnum; r.Tag = "E" },
			func(r *api.TypeRow) { r.Done = true; r.Members = manyMembers(1) },
		} {
			rows := with()
			turn(&rows[n])
			wantFrom(t, "a basic type that is none", rows, false)
		}
		rows := with()
		rows[n].Members = []api.Member{}
		wantFrom(t, "an empty list of members", rows, true)
		rows = with()
		rows[n], rows[(n+1)%11] = rows[(n+1)%11], rows[n]
		wantFrom(t, "basic types in another order", rows, false)
		wantFrom(t, "a basic type once more", with(api.TypeRow{Kind: api.TypeKind(n + 1)}), false)
	}
	for _, k := range []api.TypeKind{0, -1, 17, 18, 100, math.MaxInt, math.MinInt} {
		wantFrom(t, "no kind", with(api.TypeRow{Kind: k}), false)
		wantFrom(t, "no kind, with a tag", with(api.TypeRow{Kind: k, Tag: "S"}), false)
	}
}

func TestP3_5Count(t *testing.T) {
	c, _ := sample(t)
	fill(t, c, api.MaxTypes)
	wantFrom(t, "512 rows", c.Rows(), true)
	wantFrom(t, "513 rows", append(c.Rows(), api.TypeRow{Kind: api.TEnum, Tag: "E"}), false)
	wantFrom(t, "1024 rows", append(c.Rows(), c.Rows()...), false)
}

// TestP3_5Nothing puts into each kind of row what it does not have.
func TestP3_5Nothing(t *testing.T) {
	for _, c := range []struct {
		row api.TypeRow
		has string
	}{
		{api.TypeRow{Kind: api.TEnum, Tag: "E"}, "tag"},
		{ptrTo(idInt), "elem"},
		{arrayOf(idInt, 3), "elem len"},
		{arrayOf(idInt, -1), "elem len"},
		{api.TypeRow{Kind: api.TStruct, Tag: "S"}, "tag"},
		{api.TypeRow{Kind: api.TUnion, Tag: "U"}, "tag"},
		{structOf("S", idInt), "tag members done"},
		{unionOf("U", idInt), "tag members done"},
	} {
		wantFrom(t, "as it should be", with(c.row), true)
		for name, turn := range map[string]func(r *api.TypeRow){
			"elem": func(r *api.TypeRow) { r.Elem = idInt }, "len": func(r *api.TypeRow) { r.Len = 1 }, "len -1": func(r *api.TypeRow) { r.Len = -1 }, "tag": func(r *api.TypeRow) { r.Tag = "T" },
			"members": func(r *api.TypeRow) { r.Members = manyMembers(1) }, "done": func(r *api.TypeRow) { r.Done = true },
			"members done": func(r *api.TypeRow) { r.Done, r.Members = true, manyMembers(1) },
		} {
			row := c.row
			turn(&row)
			record := row.Kind == api.TStruct || row.Kind == api.TUnion
			fits := strings.Contains(c.has, strings.TrimSuffix(name, " -1")) || record && name == "members done"
			wantFrom(t, name, with(row), fits)
		}
	}
	undone := structOf("S", idInt)
	undone.Done = false
	wantFrom(t, "members that are not done", with(undone), false)
	wantFrom(t, "done without members", with(api.TypeRow{Kind: api.TStruct, Tag: "S", Done: true}), false)
	wantFrom(t, "done with an empty list", with(api.TypeRow{Kind: api.TUnion, Tag: "S", Done: true, Members: []api.Member{}}), false)
	wantFrom(t, "not done with an empty list", with(api.TypeRow{Kind: api.TUnion, Tag: "S", Members: []api.Member{}}), true)
}

func TestP3_5Tags(t *testing.T) {
	for _, k := range []api.TypeKind{api.TEnum, api.TStruct, api.TUnion} {
		for _, tag := range goodTags() {
			wantFrom(t, tag, with(api.TypeRow{Kind: k, Tag: tag}, api.TypeRow{Kind: k, Tag: tag}), true)
		}
		for _, tag := range badTags() {
			wantFrom(t, tag, with(api.TypeRow{Kind: k, Tag: tag}), false)
			row := structOf(tag, idInt)
			if row.Kind = k; k != api.TEnum {
				wantFrom(t, tag, with(row), false)
			}
		}
	}
}

func TestP3_5Elements(t *testing.T) {
	enum := api.TypeRow{Kind: api.TEnum, Tag: "E"}
	for _, elem := range []int{-1, -2, 12, 13, 14, 100, 511, 512, math.MaxInt, math.MinInt} {
		wantFrom(t, "a pointer to what is not ahead", with(enum, ptrTo(elem), enum, enum), false)
		wantFrom(t, "an array of what is not ahead", with(enum, arrayOf(elem, 2), enum, enum), false)
	}
	for elem := range 12 {
		wantFrom(t, "a pointer", with(enum, ptrTo(elem)), true)
		wantFrom(t, "an array", with(enum, arrayOf(elem, 2)), elem != idVoid)
	}
	for _, row := range []api.TypeRow{{Kind: api.TStruct, Tag: "S"}, {Kind: api.TUnion, Tag: "U"}, arrayOf(idInt, -1)} {
		wantFrom(t, "a pointer to what is not whole", with(row, ptrTo(11)), true)
		wantFrom(t, "an array of what is not whole", with(row, arrayOf(11, 2)), false)
		wantFrom(t, "an array of what is not whole", with(row, arrayOf(11, -1)), false)
	}
	for _, row := range []api.TypeRow{structOf("S", idInt), unionOf("U", idInt), arrayOf(idInt, 1), ptrTo(idVoid), enum} {
		wantFrom(t, "an array of what is whole", with(row, arrayOf(11, 2), arrayOf(11, -1)), true)
	}
}

func TestP3_5Lengths(t *testing.T) {
	for n, want := range map[int]bool{-1: true, 1: true, 2: true, 16383: true, 16384: true, 0: false, -2: false, -16384: false, 16385: false, 1 << 32: false, 1<<32 + 1: false, math.MaxInt: false, math.MinInt: false} {
		wantFrom(t, "an array", with(arrayOf(idChar, n)), want)
		wantFrom(t, "an array of pointers", with(ptrTo(idVoid), arrayOf(11, n)), want)
		if n != 0 {
			wantFrom(t, "a pointer with a length", with(api.TypeRow{Kind: api.TPtr, Elem: idInt, Len: n}), false)
		}
	}
}

func TestP3_5Twice(t *testing.T) {
	wantFrom(t, "a pointer twice", with(ptrTo(idInt), ptrTo(idInt)), false)
	wantFrom(t, "a pointer twice", with(ptrTo(idInt), ptrTo(11), arrayOf(12, 2), ptrTo(11)), false)
	wantFrom(t, "an array twice", with(arrayOf(idInt, 3), ptrTo(idInt), arrayOf(idInt, 3)), false)
	wantFrom(t, "an array without length twice", with(arrayOf(idInt, -1), arrayOf(idInt, -1)), false)
	wantFrom(t, "arrays of other lengths", with(arrayOf(idInt, -1), arrayOf(idInt, 1), arrayOf(idInt, 2), arrayOf(idUInt, 2), ptrTo(idInt), ptrTo(idUInt)), true)
	wantFrom(t, "a struct twice", with(structOf("S", idInt), structOf("S", idInt)), true)
}

func TestP3_5Members(t *testing.T) {
	enum := api.TypeRow{Kind: api.TEnum, Tag: "E"}
	open := api.TypeRow{Kind: api.TUnion, Tag: "open"}
	for what, c := range map[string]struct {
		members []api.Member
		want    bool
	}{
		"64": {manyMembers(64), true}, "65": {manyMembers(65), false}, "5000": {manyMembers(5000), false},
		"no type": {[]api.Member{member("a", -1)}, false}, "no type behind": {[]api.Member{member("a", 15)}, false},
		"void": {[]api.Member{member("a", idVoid)}, false}, "not done": {[]api.Member{member("a", 12)}, false},
		"length not told": {[]api.Member{member("a", 14)}, false}, "an enum behind": {[]api.Member{bitField("a", 13, 32)}, true},
		"33 bits": {[]api.Member{bitField("a", 13, 33)}, false}, "-2 bits": {[]api.Member{bitField("a", idInt, -2)}, false},
		"2 bits of _Bool": {[]api.Member{bitField("a", idBool, 2)}, false}, "1 bit of _Bool": {[]api.Member{bitField("a", idBool, 1)}, true},
		"0 bits with a name": {[]api.Member{bitField("a", idInt, 0)}, false}, "0 bits": {[]api.Member{bitField("", idInt, 0)}, true},
		"no name": {[]api.Member{member("", idInt)}, false}, "a number as a name": {[]api.Member{member("#1", idInt)}, false},
		"twice": {[]api.Member{member("a", idInt), member("b", idInt), member("a", idInt)}, false},
		"last":  {[]api.Member{member("a", idInt), member("b", idInt), member("1", idInt)}, false},
	} {
		for _, k := range []api.TypeKind{api.TStruct, api.TUnion} {
			row := api.TypeRow{Kind: k, Tag: "S", Done: true, Members: c.members}
			wantFrom(t, what, with(row, open, enum, arrayOf(idInt, -1)), c.want)
		}
	}
}

func TestP3_5WithinItself(t *testing.T) {
	wantFrom(t, "a struct of itself", with(structOf("S", 11)), false)
	wantFrom(t, "a union of itself", with(unionOf("U", idInt, 11)), false)
	wantFrom(t, "two", with(structOf("A", 12), structOf("B", idInt, 11)), false)
	wantFrom(t, "three", with(structOf("A", 12), unionOf("B", idInt, 13), structOf("C", idChar, 11)), false)
	wantFrom(t, "by an array", with(structOf("A", 12), arrayOf(11, 2)), false)
	wantFrom(t, "by arrays of arrays", with(structOf("A", idInt, 13), arrayOf(11, 2), arrayOf(12, 2)), false)
	wantFrom(t, "behind others", with(structOf("X", idInt), structOf("Y", 11, 13), unionOf("Z", 11, 12)), false)
	wantFrom(t, "a circle that others lead to", with(structOf("X", 12), structOf("Y", 13), unionOf("Z", 12)), false)
	wantFrom(t, "by a pointer", with(structOf("A", 12), ptrTo(11)), true)
	wantFrom(t, "by a pointer to an array", with(structOf("A", 13), arrayOf(11, 2), ptrTo(12)), true)
	wantFrom(t, "by an array of pointers", with(structOf("A", 13), ptrTo(11), arrayOf(12, 2)), true)
	wantFrom(t, "two that point", with(structOf("A", 13), structOf("B", 11), ptrTo(12)), true)
	wantFrom(t, "one within two", with(structOf("A", idInt), structOf("B", 11, 11), structOf("C", 11, 12)), true)
	wantFrom(t, "types behind", with(structOf("A", 13, 12), structOf("B", 13), structOf("C", idInt)), true)
	wantFrom(t, "types behind an array", with(structOf("A", 13), arrayOf(11, 2), ptrTo(idVoid)), true)
}

// TestP3_5LongCircle has structs within structs as many as a table has, with and without the last one leading back.
func TestP3_5LongCircle(t *testing.T) {
	for _, last := range []int{idInt, 11, 500} {
		rows := with()
		for i := 11; i < api.MaxTypes-1; i++ {
			rows = append(rows, structOf("S", i+1))
		}
		wantFrom(t, "a long way", append(rows, structOf("S", last)), last == idInt)
	}
	rows := with(structOf("S", idInt, idChar))
	for i := 12; i < api.MaxTypes; i++ {
		rows = append(rows, structOf("S", i-1, i-1, i-1, i-1))
	}
	wantFrom(t, "very many ways", rows, true)
	rows[11].Members[1].Type = 511
	wantFrom(t, "very many ways, and back", rows, false)
}

func TestP3_5NewMemory(t *testing.T) {
	c, _ := sample(t)
	rows := c.Rows()
	d, err := From(rows)
	if err != api.OK {
		t.Fatal(err)
	}
	same := unchanged(t, d)
	for _, row := range rows {
		clear(row.Members)
	}
	clear(rows)
	same("writing into rows that were handed in")
	e, err := From(d.Rows())
	if err != api.OK {
		t.Fatal(err)
	}
	id(t)(e.Enum("More"))
	same("what was done to a table of the same rows")
}

func TestP3_7FromRows(t *testing.T) {
	c, n := sample(t)
	wantFrom(t, "the sample", c.Rows(), true)
	d, err := From(c.Rows())
	if err != api.OK {
		t.Fatal(err)
	}
	if err := d.Complete(n["struct S"], manyMembers(1)); err != api.ErrDone {
		t.Error(err)
	}
	if err := d.Complete(n["struct open"], manyMembers(1)); err != api.OK {
		t.Error(err)
	}
	if got := id(t)(d.Ptr(idShort)); got != c.Len() {
		t.Error(got)
	}
}

// TestP3_7Ahead asks that elements stand ahead of what is made of them, and pointers and arrays once.
func TestP3_7Ahead(t *testing.T) {
	c, _ := sample(t)
	rows := c.Rows()
	for i, row := range rows {
		if row.Kind != api.TPtr && row.Kind != api.TArray {
			continue
		}
		if row.Elem < 0 || row.Elem >= i {
			t.Errorf("row %d has the element %d", i, row.Elem)
		}
		if slices.IndexFunc(rows, func(r api.TypeRow) bool { return sameRow(r, row) }) != i {
			t.Errorf("row %d stands twice", i)
		}
	}
}

package ctype

import (
	"math"
	"slices"
	"strconv"
	"strings"
	"testing"

	"mortise/api"
)

// The basic types' numbers.
const (
	idVoid = iota
	idBool
	idChar
	idSChar
	idUChar
	idShort
	idUShort
	idInt
	idUInt
	idLong
	idULong
	firstFree
)

// id answers a type's number, and fails if it was refused.
func id(t *testing.T) func(n int, err api.Errno) int {
	return func(n int, err api.Errno) int {
		t.Helper()
		if err != api.OK {
			t.Fatalf("refused: %d", err)
		}
		return n
	}
}

// wantRefused asks that a call that makes a type was refused with want, and gave no number.
func wantRefused(t *testing.T, what string, n int, err api.Errno, want api.Errno) {
	t.Helper()
	if n != 0 || err != want {
		t.Errorf("%s = %d, %d, want 0, %d", what, n, err, want)
	}
}

// sameRow tells whether two rows are alike; nil and empty lists of members are.
func sameRow(a, b api.TypeRow) bool {
	return a.Kind == b.Kind && a.Elem == b.Elem && a.Len == b.Len && a.Tag == b.Tag && a.Done == b.Done && slices.Equal(a.Members, b.Members)
}

// sameRows tells whether two lists of rows are alike.
func sameRows(a, b []api.TypeRow) bool { return slices.EqualFunc(a, b, sameRow) }

// deep copies rows by hand.
func deep(rows []api.TypeRow) []api.TypeRow {
	l := slices.Clone(rows)
	for i := range l {
		l[i].Members = slices.Clone(l[i].Members)
	}
	return l
}

// unchanged answers a function that fails if the table is another one than now.
func unchanged(t *testing.T, c *Table) func(what string) {
	before := c.Rows()
	return func(what string) {
		t.Helper()
		if !sameRows(c.Rows(), before) || c.Len() != len(before) {
			t.Errorf("%s changed the table: %v, was %v", what, c.Rows(), before)
		}
	}
}

// noTypes are numbers that are no types of a table with n rows.
func noTypes(n int) []int {
	return []int{-1, -2, -7, -512, n, n + 1, n + 100, 513, 1 << 20, 1<<32 + 7, -1<<32 + 7, math.MaxInt, math.MinInt, math.MinInt + 7}
}

// goodTags are tags.
func goodTags() []string {
	return []string{
		"a", "Z", "_", "S", "s1", "_9", "__", "int", "struct", "a_b_C_9", strings.Repeat("t", 62), strings.Repeat("t", 63), "_" + strings.Repeat("0", 62),
		"#0", "#1", "#9", "#00", "#12", "#007", "#1234", "#12345", "#123456", "#1234567", "#12345678", "#123456789", "#999999999",
	}
}

// badTags are texts that are no tags.
func badTags() []string {
	return []string{
		"", "1", "9a", "0", " ", "a ", " a", "a b", "a-b", "a.b", "a\x00", "\x00", "a\n", "\n", "ä", "a\xff", "\xc3\xa4", "é", "*", "a#", "a#1", "$a", "a$",
		strings.Repeat("t", 64), strings.Repeat("t", 65), strings.Repeat("t", 1000), "9" + strings.Repeat("t", 62),
		"#", "##", "##1", "#a", "#_", "#1a", "#a1", "#-1", "#+1", "# 1", "#1 ", " #1", "#1.", "#1234567890", "#0000000001", "#12345678901", "#" + strings.Repeat("1", 62), "#١", "#1\x00",
	}
}

// member is one that is no bit-field.
func member(name string, id int) api.Member { return api.Member{Name: name, Type: id, Bits: -1} }

// bitField is one that is.
func bitField(name string, id int, bits int) api.Member {
	return api.Member{Name: name, Type: id, Bits: bits}
}

// manyMembers are n chars.
func manyMembers(n int) []api.Member {
	l := make([]api.Member, n)
	for i := range l {
		l[i] = member("m"+strconv.Itoa(i), idChar)
	}
	return l
}

// sample is a table with types of all kinds, done and not, and their numbers by how they are declared.
func sample(t *testing.T) (*Table, map[string]int) {
	t.Helper()
	c := New()
	n := map[string]int{}
	put := func(name string, made int) { n[name] = made }
	put("struct S", id(t)(c.Struct("S")))
	put("union U", id(t)(c.Union("U")))
	put("struct open", id(t)(c.Struct("open")))
	put("union #3", id(t)(c.Union("#3")))
	put("enum E", id(t)(c.Enum("E")))
	put("struct S *", id(t)(c.Ptr(n["struct S"])))
	put("void *", id(t)(c.Ptr(idVoid)))
	put("int [3]", id(t)(c.Array(idInt, 3)))
	put("int []", id(t)(c.Array(idInt, -1)))
	put("int (*)[3]", id(t)(c.Ptr(n["int [3]"])))
	put("int (*)[]", id(t)(c.Ptr(n["int []"])))
	put("struct open *", id(t)(c.Ptr(n["struct open"])))
	if err := c.Complete(n["struct S"], []api.Member{member("next", n["struct S *"]), bitField("b", idUInt, 5), bitField("", idInt, 0), member("a", n["int [3]"]), bitField("", idChar, 8)}); err != api.OK {
		t.Fatal(err)
	}
	put("struct S [2]", id(t)(c.Array(n["struct S"], 2)))
	if err := c.Complete(n["union U"], []api.Member{member("all", n["struct S [2]"]), member("e", n["enum E"])}); err != api.OK {
		t.Fatal(err)
	}
	return c, n
}

// fill makes enumerations until the table has n rows.
func fill(t *testing.T, c *Table, n int) {
	t.Helper()
	for i := c.Len(); i < n; i++ {
		if got := id(t)(c.Enum("F" + strconv.Itoa(i))); got != i {
			t.Fatalf("row %d has the number %d", i, got)
		}
	}
}

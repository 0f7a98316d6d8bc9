package ctype

import (
	"math"
	"slices"
	"strconv"
	"strings"
	"testing"

	"mortise/api"
)

// wantComplete asks that a new struct and a new union of a copy of the table get these members, or are refused them.
func wantComplete(t *testing.T, c *Table, members []api.Member, want api.Errno) {
	t.Helper()
	d := c.Copy()
	for _, k := range []int{id(t)(d.Struct("New")), id(t)(d.Union("New"))} {
		same := unchanged(t, d)
		given := slices.Clone(members)
		if err := d.Complete(k, members); err != want {
			t.Errorf("Complete(%v) = %d, want %d", members, err, want)
		}
		if !slices.Equal(given, members) {
			t.Errorf("Complete changed %v", given)
		}
		row, _ := d.Row(k)
		if want != api.OK {
			same("Complete that was refused")
		} else if !row.Done || !slices.Equal(row.Members, members) || !d.Whole(k) {
			t.Errorf("Complete(%v) made %v", members, row)
		}
	}
}

func TestP3_3NoRecord(t *testing.T) {
	c, n := sample(t)
	same := unchanged(t, c)
	for _, members := range [][]api.Member{nil, manyMembers(1), manyMembers(65), {member("a", idVoid)}} {
		for _, k := range append(noTypes(c.Len()), idVoid, idInt, idULong, n["enum E"], n["void *"], n["int [3]"], n["int []"], n["struct S *"], n["struct S [2]"]) {
			if err := c.Complete(k, members); err != api.ErrType {
				t.Errorf("Complete(%d) = %d", k, err)
			}
		}
		for _, name := range []string{"struct S", "union U"} {
			if err := c.Complete(n[name], members); err != api.ErrDone {
				t.Errorf("Complete of %s = %d", name, err)
			}
		}
	}
	same("Complete of what has no members, or has them")
}

func TestP3_3Once(t *testing.T) {
	c := New()
	s := id(t)(c.Struct("S"))
	if err := c.Complete(s, []api.Member{member("a", s)}); err != api.ErrIncomplete {
		t.Error(err)
	}
	if err := c.Complete(s, manyMembers(2)); err != api.OK {
		t.Error("a call that was refused made it done:", err)
	}
	same := unchanged(t, c)
	if err := c.Complete(s, manyMembers(2)); err != api.ErrDone {
		t.Error(err)
	}
	same("Complete once more")
}

func TestP3_3Count(t *testing.T) {
	c := New()
	for n, want := range map[int]api.Errno{0: api.ErrArg, 1: api.OK, 2: api.OK, 63: api.OK, 64: api.OK, 65: api.ErrArg, 66: api.ErrArg, 5000: api.ErrArg} {
		wantComplete(t, c, manyMembers(n), want)
	}
	wantComplete(t, c, []api.Member{}, api.ErrArg)
	many := manyMembers(65)
	many[0] = member("", 99)
	wantComplete(t, c, many, api.ErrArg)
	wantComplete(t, c, many[:64], api.ErrType)
}

func TestP3_3Types(t *testing.T) {
	c, n := sample(t)
	for _, k := range noTypes(c.Len() + 2) {
		wantComplete(t, c, []api.Member{member("a", k)}, api.ErrType)
		wantComplete(t, c, []api.Member{member("a", idInt), member("b", k)}, api.ErrType)
	}
	for k := range c.Len() {
		want := api.OK
		if slices.Contains([]int{idVoid, n["struct open"], n["union #3"], n["int []"]}, k) {
			want = api.ErrIncomplete
		}
		wantComplete(t, c, []api.Member{member("a", k)}, want)
		wantComplete(t, c, []api.Member{member("a", idChar), member("b", k)}, want)
	}
}

// fieldKinds are the most bits of a bit-field of each basic type.
func fieldKinds() map[int]int {
	return map[int]int{idBool: 1, idChar: 8, idSChar: 8, idUChar: 8, idShort: 16, idUShort: 16, idInt: 32, idUInt: 32, idLong: 32, idULong: 32}
}

func TestP3_3Bits(t *testing.T) {
	c, n := sample(t)
	most := fieldKinds()
	most[n["enum E"]] = 32
	for k := range c.Len() {
		if !c.Whole(k) {
			continue
		}
		width, integer := most[k]
		for bits := -3; bits <= 70; bits++ {
			named, bare := api.ErrBits, api.ErrBits
			switch {
			case bits == -1:
				named, bare = api.OK, api.ErrTag
			case bits == 0 && integer:
				named, bare = api.ErrTag, api.OK
			case bits > 0 && bits <= width:
				named, bare = api.OK, api.OK
			}
			wantComplete(t, c, []api.Member{bitField("a", k, bits)}, named)
			wantComplete(t, c, []api.Member{bitField("", k, bits)}, bare)
		}
		for _, bits := range []int{math.MaxInt, math.MinInt, 1 << 32, 1<<32 - 1, 1<<32 + 1, -1 << 32, 256} {
			wantComplete(t, c, []api.Member{bitField("a", k, bits)}, api.ErrBits)
			wantComplete(t, c, []api.Member{bitField("", k, bits)}, api.ErrBits)
		}
	}
}

func TestP3_3Names(t *testing.T) {
	c := New()
	for _, s := range goodTags() {
		want := api.OK
		if strings.HasPrefix(s, "#") {
			want = api.ErrTag
		}
		wantComplete(t, c, []api.Member{member(s, idInt)}, want)
		wantComplete(t, c, []api.Member{bitField(s, idInt, 3)}, want)
		wantComplete(t, c, []api.Member{bitField(s, idInt, 0)}, api.ErrTag)
	}
	for _, s := range badTags() {
		if s == "" {
			continue
		}
		wantComplete(t, c, []api.Member{member(s, idInt)}, api.ErrTag)
		wantComplete(t, c, []api.Member{bitField(s, idInt, 3)}, api.ErrTag)
		wantComplete(t, c, []api.Member{bitField(s, idInt, 0)}, api.ErrTag)
	}
	wantComplete(t, c, []api.Member{member("", idInt)}, api.ErrTag)
	wantComplete(t, c, []api.Member{member("New", idInt)}, api.OK)
}

func TestP3_3NamesTwice(t *testing.T) {
	c := New()
	wantComplete(t, c, []api.Member{member("a", idInt), member("a", idInt)}, api.ErrTag)
	wantComplete(t, c, []api.Member{member("a", idInt), member("b", idInt), bitField("a", idChar, 2)}, api.ErrTag)
	wantComplete(t, c, []api.Member{bitField("a", idInt, 2), bitField("a", idInt, 2)}, api.ErrTag)
	wantComplete(t, c, []api.Member{member("a", idInt), member("A", idInt), member("a_", idInt), member("_a", idInt), member("aa", idInt)}, api.OK)
	wantComplete(t, c, []api.Member{bitField("", idInt, 2), bitField("", idInt, 0), bitField("", idInt, 2), bitField("", idInt, 0)}, api.OK)
	for i := range 64 {
		for _, j := range []int{0, i / 2, i - 1} {
			many := manyMembers(64)
			if 0 <= j && j < i {
				many[i].Name = many[j].Name
				wantComplete(t, c, many, api.ErrTag)
			}
		}
	}
}

// TestP3_3Order: of one member the errors in their order; of several the first member's.
func TestP3_3Order(t *testing.T) {
	c, n := sample(t)
	wrong := map[api.Errno][]api.Member{
		api.ErrType:       {{Name: "1", Type: -1, Bits: 77}, {Type: 99, Bits: -5}, {Name: "a", Type: 99, Bits: 0}},
		api.ErrIncomplete: {{Name: "1", Type: idVoid, Bits: 77}, {Type: n["int []"], Bits: -5}, {Name: "first", Type: n["struct open"], Bits: 0}},
		api.ErrBits:       {{Name: "1", Type: idInt, Bits: 33}, {Type: idBool, Bits: 2}, {Name: "first", Type: n["void *"], Bits: 0}, {Name: "#1", Type: n["struct S"], Bits: 1}},
		api.ErrTag:        {{Name: "1", Type: idInt, Bits: 32}, {Type: idBool, Bits: -1}, {Name: "first", Type: idInt, Bits: -1}, {Name: "ok", Type: idInt}},
	}
	for first, as := range wrong {
		for _, a := range as {
			wantComplete(t, c, []api.Member{member("first", idInt), a}, first)
			for _, bs := range wrong {
				for _, b := range bs {
					wantComplete(t, c, []api.Member{member("first", idInt), a, b}, first)
				}
			}
		}
	}
}

func TestP3_3PointerToItself(t *testing.T) {
	c := New()
	s := id(t)(c.Struct("S"))
	p := id(t)(c.Ptr(s))
	if err := c.Complete(s, []api.Member{member("s", s)}); err != api.ErrIncomplete {
		t.Error(err)
	}
	if err := c.Complete(s, []api.Member{member("n", idInt), member("p", p), member("s", s)}); err != api.ErrIncomplete {
		t.Error(err)
	}
	if err := c.Complete(s, []api.Member{member("p", p)}); err != api.OK || !c.Whole(s) {
		t.Error(err)
	}
}

// TestP3_7NotWithinItself tries to put structs into each other, right away and by arrays.
func TestP3_7NotWithinItself(t *testing.T) {
	c := New()
	a, b := id(t)(c.Struct("A")), id(t)(c.Union("B"))
	if _, err := c.Array(a, 2); err != api.ErrIncomplete {
		t.Error(err)
	}
	if err := c.Complete(a, []api.Member{member("b", b)}); err != api.ErrIncomplete {
		t.Error(err)
	}
	if err := c.Complete(b, []api.Member{member("n", idInt)}); err != api.OK {
		t.Error(err)
	}
	rows := id(t)(c.Array(b, 2))
	if err := c.Complete(a, []api.Member{member("b", rows)}); err != api.OK {
		t.Error(err)
	}
	if err := c.Complete(b, []api.Member{member("a", a)}); err != api.ErrDone {
		t.Error(err)
	}
}

// TestP3_3Deep builds structs of structs as deep as the table goes.
func TestP3_3Deep(t *testing.T) {
	c := New()
	last := idChar
	for range api.MaxTypes - firstFree {
		s := id(t)(c.Struct("D" + strconv.Itoa(last)))
		if err := c.Complete(s, []api.Member{member("a", last), member("b", last)}); err != api.OK {
			t.Fatal(err)
		}
		last = s
	}
	d, err := From(c.Rows())
	if err != api.OK || !sameRows(d.Rows(), c.Rows()) {
		t.Errorf("From of structs within structs: %d", err)
	}
}

package layout

import (
	"strings"
	"testing"

	"mortise/api"
)

// TestP5_2Examples: the chapter's structs and unions.
func TestP5_2Examples(t *testing.T) {
	k := newKit(t)
	id := k.structOf(plain("c", idChar), plain("i", idInt), plain("s", idShort))
	wantExtent(t, k.Table, "example 1", id, 12, 4)
	wantPlaces(t, k.Table, "example 1", id, api.Place{Type: idChar}, api.Place{Member: 1, Type: idInt, Off: 4}, api.Place{Member: 2, Type: idShort, Off: 8})
	id = k.structOf(field("a", idInt, 3), field("b", idInt, 30), plain("c", idChar))
	wantExtent(t, k.Table, "example 2", id, 12, 4)
	wantPlaces(t, k.Table, "example 2", id, api.Place{Type: idInt, Bits: 3}, api.Place{Member: 1, Type: idInt, Off: 4, Bits: 30}, api.Place{Member: 2, Type: idChar, Off: 8})
	id = k.structOf(field("a", idChar, 3), field("b", idChar, 6))
	wantExtent(t, k.Table, "example 2, chars", id, 2, 1)
	wantPlaces(t, k.Table, "example 2, chars", id, api.Place{Type: idChar, Bits: 3}, api.Place{Member: 1, Type: idChar, Off: 1, Bits: 6})
	id = k.structOf(plain("c", idChar), field("", idInt, 0), plain("d", idChar))
	wantExtent(t, k.Table, "example 2, no bits", id, 5, 1)
	wantPlaces(t, k.Table, "example 2, no bits", id, api.Place{Type: idChar}, api.Place{Member: 2, Type: idChar, Off: 4})
	three := k.arrayOf(idChar, 3)
	id = k.unionOf(plain("a", three), plain("s", idShort))
	wantExtent(t, k.Table, "example 3", id, 4, 2)
	wantPlaces(t, k.Table, "example 3", id, api.Place{Type: three}, api.Place{Member: 1, Type: idShort})
}

// TestP5_2Plain: members that are no bit-fields go up to their alignment, and the size to the struct's.
func TestP5_2Plain(t *testing.T) {
	k := newKit(t)
	wantExtent(t, k.Table, "struct{char}", k.structOf(plain("c", idChar)), 1, 1)
	wantExtent(t, k.Table, "struct{short; char}", k.structOf(plain("s", idShort), plain("c", idChar)), 4, 2)
	wantExtent(t, k.Table, "struct{int; char}", k.structOf(plain("i", idInt), plain("c", idChar)), 8, 4)
	three := k.arrayOf(idChar, 3)
	id := k.structOf(plain("c", idChar), plain("s", idShort), plain("d", idChar), plain("a", three), plain("p", k.took(k.Ptr(idVoid))), plain("e", idChar))
	wantExtent(t, k.Table, "a struct of many", id, 16, 4)
	wantPlaces(t, k.Table, "a struct of many", id,
		api.Place{Type: idChar}, api.Place{Member: 1, Type: idShort, Off: 2}, api.Place{Member: 2, Type: idChar, Off: 4},
		api.Place{Member: 3, Type: three, Off: 5}, api.Place{Member: 4, Type: k.took(k.Ptr(idVoid)), Off: 8}, api.Place{Member: 5, Type: idChar, Off: 12})
	outer := k.structOf(plain("c", idChar), plain("in", id), plain("b", idBool))
	wantExtent(t, k.Table, "a struct within one", outer, 24, 4)
	wantPlaces(t, k.Table, "a struct within one", outer, api.Place{Type: idChar}, api.Place{Member: 1, Type: id, Off: 4}, api.Place{Member: 2, Type: idBool, Off: 20})
}

// TestP5_2Units: a bit-field lies within one unit of its type.
func TestP5_2Units(t *testing.T) {
	k := newKit(t)
	id := k.structOf(field("a", idInt, 32), field("b", idInt, 32), field("c", idInt, 1))
	wantExtent(t, k.Table, "all bits of a unit", id, 12, 4)
	wantPlaces(t, k.Table, "all bits of a unit", id, api.Place{Type: idInt, Bits: 32}, api.Place{Member: 1, Type: idInt, Off: 4, Bits: 32}, api.Place{Member: 2, Type: idInt, Off: 8, Bits: 1})
	id = k.structOf(field("a", idInt, 1), field("b", idInt, 31), field("c", idShort, 15), field("d", idShort, 1))
	wantExtent(t, k.Table, "units that are just full", id, 8, 4)
	wantPlaces(t, k.Table, "units that are just full", id, api.Place{Type: idInt, Bits: 1}, api.Place{Member: 1, Type: idInt, Bit: 1, Bits: 31},
		api.Place{Member: 2, Type: idShort, Off: 4, Bits: 15}, api.Place{Member: 3, Type: idShort, Off: 4, Bit: 15, Bits: 1})
	id = k.structOf(field("a", idInt, 1), field("b", idInt, 32))
	wantPlaces(t, k.Table, "one bit too many", id, api.Place{Type: idInt, Bits: 1}, api.Place{Member: 1, Type: idInt, Off: 4, Bits: 32})
	id = k.structOf(plain("c", idChar), field("a", idInt, 24), field("b", idChar, 1), field("d", idBool, 1), plain("e", idChar))
	wantExtent(t, k.Table, "a unit that others share", id, 8, 4)
	wantPlaces(t, k.Table, "a unit that others share", id, api.Place{Type: idChar}, api.Place{Member: 1, Type: idInt, Bit: 8, Bits: 24},
		api.Place{Member: 2, Type: idChar, Off: 4, Bits: 1}, api.Place{Member: 3, Type: idBool, Off: 4, Bit: 1, Bits: 1}, api.Place{Member: 4, Type: idChar, Off: 5})
	id = k.structOf(field("a", idInt, 7), field("b", idShort, 9), field("c", idShort, 1), field("d", idChar, 8))
	wantExtent(t, k.Table, "units of several types", id, 4, 4)
	wantPlaces(t, k.Table, "units of several types", id, api.Place{Type: idInt, Bits: 7}, api.Place{Member: 1, Type: idShort, Bit: 7, Bits: 9},
		api.Place{Member: 2, Type: idShort, Off: 2, Bits: 1}, api.Place{Member: 3, Type: idChar, Off: 3, Bits: 8})
	enum := k.took(k.Enum("E"))
	id = k.structOf(field("a", enum, 3), field("b", enum, 30))
	wantPlaces(t, k.Table, "enumerations", id, api.Place{Type: enum, Bits: 3}, api.Place{Member: 1, Type: enum, Off: 4, Bits: 30})
}

// TestP5_2NoBits: a bit-field of 0 bits takes the place up to its unit's end, and has no place.
func TestP5_2NoBits(t *testing.T) {
	k := newKit(t)
	for _, x := range []struct {
		what string
		l    []api.Member
		off  int
	}{
		{"char", []api.Member{field("a", idInt, 3), field("", idChar, 0)}, 1},
		{"short", []api.Member{field("a", idInt, 3), field("", idShort, 0)}, 2},
		{"int", []api.Member{field("a", idInt, 3), field("", idInt, 0)}, 4},
		{"int, twice", []api.Member{field("a", idInt, 3), field("", idInt, 0), field("", idInt, 0)}, 4},
		{"int, behind a full unit", []api.Member{plain("a", idInt), field("", idInt, 0)}, 4},
		{"short, behind three bytes", []api.Member{plain("a", k.arrayOf(idChar, 3)), field("", idShort, 0)}, 4},
		{"first", []api.Member{field("", idInt, 0), field("", idLong, 0)}, 0},
	} {
		n := len(x.l)
		id := k.structOf(append(x.l, plain("c", idChar))...)
		if p, ok, err := Find(k.Table, id, "c"); p != (api.Place{Member: n, Type: idChar, Off: x.off}) || !ok || err != api.OK {
			t.Errorf("%s: Find = %v, %v, %d, want Off %d", x.what, p, ok, err, x.off)
		}
	}
	wantExtent(t, k.Table, "0 bits at the end", k.structOf(plain("c", idChar), field("", idInt, 0)), 4, 1)
	wantExtent(t, k.Table, "0 bits at the end of three bytes", k.structOf(plain("c", k.arrayOf(idChar, 3)), field("", idShort, 0)), 4, 1)
	wantExtent(t, k.Table, "0 bits of char at the end", k.structOf(plain("c", idChar), field("", idChar, 0)), 1, 1)
}

// TestP5_2NoName: bit-fields without a name take room, but do not align.
func TestP5_2NoName(t *testing.T) {
	k := newKit(t)
	id := k.structOf(plain("c", idChar), field("", idInt, 3), plain("d", idChar))
	wantExtent(t, k.Table, "bits without a name", id, 3, 1)
	wantPlaces(t, k.Table, "bits without a name", id, api.Place{Type: idChar}, api.Place{Member: 1, Type: idInt, Bit: 8, Bits: 3}, api.Place{Member: 2, Type: idChar, Off: 2})
	id = k.structOf(plain("c", idChar), field("n", idInt, 3), plain("d", idChar))
	wantExtent(t, k.Table, "bits with a name", id, 4, 4)
	id = k.structOf(field("", idShort, 10), field("", idShort, 10), field("b", idChar, 1))
	wantExtent(t, k.Table, "bits across a unit's end", id, 4, 1)
	wantPlaces(t, k.Table, "bits across a unit's end", id, api.Place{Type: idShort, Bits: 10}, api.Place{Member: 1, Type: idShort, Off: 2, Bits: 10}, api.Place{Member: 2, Type: idChar, Off: 3, Bit: 2, Bits: 1})
}

// TestP5_2Nothing: structs and unions whose members have no bits, or no names, have a byte at least.
func TestP5_2Nothing(t *testing.T) {
	k := newKit(t)
	wantExtent(t, k.Table, "struct{int : 0}", k.structOf(field("", idInt, 0)), 1, 1)
	wantExtent(t, k.Table, "union{int : 0}", k.unionOf(field("", idInt, 0)), 1, 1)
	wantExtent(t, k.Table, "union{int : 0; short : 0}", k.unionOf(field("", idInt, 0), field("", idShort, 0)), 1, 1)
	wantPlaces(t, k.Table, "struct{int : 0}", k.structOf(field("", idInt, 0)))
	wantPlaces(t, k.Table, "union{int : 0}", k.unionOf(field("", idInt, 0)))
	wantExtent(t, k.Table, "struct{int : 1}", k.structOf(field("", idInt, 1)), 1, 1)
	wantExtent(t, k.Table, "struct{int : 17; int : 17}", k.structOf(field("", idInt, 17), field("", idInt, 17)), 7, 1)
	wantExtent(t, k.Table, "union{int : 17}", k.unionOf(field("", idInt, 17), field("", idShort, 9)), 3, 1)
	wantPlaces(t, k.Table, "union{int : 17}", k.unionOf(field("", idInt, 17), field("", idInt, 0), field("", idShort, 9)), api.Place{Type: idInt, Bits: 17}, api.Place{Member: 2, Type: idShort, Bits: 9})
	wantExtent(t, k.Table, "an array of such", k.arrayOf(k.structOf(field("", idInt, 0)), 5), 5, 1)
}

// TestP5_2Unions: the members of a union lie at its beginning; its size is that of the greatest, up to its alignment.
func TestP5_2Unions(t *testing.T) {
	k := newKit(t)
	wantExtent(t, k.Table, "union{char}", k.unionOf(plain("c", idChar)), 1, 1)
	wantExtent(t, k.Table, "union{int : 3}", k.unionOf(field("a", idInt, 3)), 4, 4)
	wantExtent(t, k.Table, "union{char : 8; char}", k.unionOf(field("a", idChar, 8), plain("c", idChar)), 1, 1)
	wantExtent(t, k.Table, "union{short : 9; char[3]}", k.unionOf(field("a", idShort, 9), plain("c", k.arrayOf(idChar, 3))), 4, 2)
	wantExtent(t, k.Table, "union{short : 9, no name; char}", k.unionOf(field("", idShort, 9), plain("c", idChar)), 2, 1)
	wantExtent(t, k.Table, "union{char[5]; int}", k.unionOf(plain("a", k.arrayOf(idChar, 5)), plain("i", idInt)), 8, 4)
	pair := k.structOf(plain("c", idChar), plain("s", idShort))
	id := k.unionOf(field("f", idInt, 20), plain("p", pair), field("", idInt, 0), field("g", idUInt, 32), plain("i", idInt))
	wantExtent(t, k.Table, "a union of many", id, 4, 4)
	wantPlaces(t, k.Table, "a union of many", id, api.Place{Type: idInt, Bits: 20}, api.Place{Member: 1, Type: pair}, api.Place{Member: 3, Type: idUInt, Bits: 32}, api.Place{Member: 4, Type: idInt})
	outer := k.structOf(plain("c", idChar), plain("u", id), plain("a", k.arrayOf(pair, 3)), plain("d", idChar))
	wantExtent(t, k.Table, "a struct with all", outer, 24, 4)
}

// TestP5_3NoRecord: what is no struct and no union has no places.
func TestP5_3NoRecord(t *testing.T) {
	k := newKit(t)
	row := k.structOf(plain("a", idInt))
	for _, id := range []int{idBool, idChar, idInt, idULong, k.took(k.Enum("E")), k.took(k.Ptr(row)), k.arrayOf(row, 1), k.arrayOf(idInt, 3)} {
		wantScalarRefused(t, k.Table, "no struct and no union", id, api.ErrType)
	}
}

// TestP5_3Find: a member is found by its name alone.
func TestP5_3Find(t *testing.T) {
	k := newKit(t)
	long := strings.Repeat("x", 63)
	l := []api.Member{plain("a", idChar), field("", idInt, 3), field("b", idInt, 5), field("", idShort, 0), plain("A", idInt), plain(long, idShort), field("_", idShort, 16)}
	id := k.structOf(l...)
	for name, want := range map[string]api.Place{
		"a": {Type: idChar}, "b": {Member: 2, Type: idInt, Bit: 11, Bits: 5}, "A": {Member: 4, Type: idInt, Off: 4},
		long: {Member: 5, Type: idShort, Off: 8}, "_": {Member: 6, Type: idShort, Off: 10, Bits: 16},
	} {
		if p, ok, err := Find(k.Table, id, name); p != want || !ok || err != api.OK {
			t.Errorf("Find(%q) = %v, %v, %d, want %v", name, p, ok, err, want)
		}
	}
	for _, id := range []int{id, k.unionOf(l...), k.structOf(field("", idInt, 3), field("", idInt, 0)), k.unionOf(field("", idInt, 3))} {
		for _, name := range []string{"", "c", "aa", "B", "b ", " b", "a\x00", "__", long[1:], long + "x", "#1", "0", "S"} {
			if p, ok, err := Find(k.Table, id, name); p != (api.Place{}) || ok || err != api.OK {
				t.Errorf("Find(%d, %q) = %v, %v, %d, want a zero place, false, 0", id, name, p, ok, err)
			}
		}
	}
	if p, ok, err := Find(k.Table, k.unionOf(l...), "b"); p != (api.Place{Member: 2, Type: idInt, Bits: 5}) || !ok || err != api.OK {
		t.Errorf("Find in a union = %v, %v, %d", p, ok, err)
	}
}

// TestP5_3Inner: Find does not look into members.
func TestP5_3Inner(t *testing.T) {
	k := newKit(t)
	in := k.structOf(plain("x", idInt))
	id := k.structOf(plain("in", in), plain("y", idInt))
	if p, ok, err := Find(k.Table, id, "x"); p != (api.Place{}) || ok || err != api.OK {
		t.Errorf("Find of an inner member = %v, %v, %d", p, ok, err)
	}
}

// TestP5_3Any: the places of grown types are those of the second telling, and each name is found at its own.
func TestP5_3Any(t *testing.T) {
	records := 0
	for seed := range int64(400) {
		c := grown(t, seed)
		for id := firstFree; id < c.Len(); id++ {
			if row, _ := c.Row(id); !row.Done || tell(c, id).large {
				continue
			}
			records++
			s := tell(c, id)
			wantPlaces(t, c, "a grown type", id, s.places...)
			wantFound(t, c.Rows()[id].Members, s.places, func(name string) (api.Place, bool, api.Errno) { return Find(c, id, name) })
		}
		if t.Failed() {
			t.Fatalf("seed %d: %v", seed, c.Rows()[firstFree:])
		}
	}
	if records < 1000 {
		t.Errorf("only %d structs and unions", records)
	}
}

// wantFound asks that each member with a name is found at its place.
func wantFound(t *testing.T, members []api.Member, places []api.Place, find func(string) (api.Place, bool, api.Errno)) {
	t.Helper()
	for _, want := range places {
		name := members[want.Member].Name
		if name == "" {
			continue
		}
		if p, ok, err := find(name); p != want || !ok || err != api.OK {
			t.Errorf("Find(%q) = %v, %v, %d, want %v", name, p, ok, err, want)
		}
	}
}

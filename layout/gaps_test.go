package layout

import (
	"testing"

	"mortise/api"
)

// TestP5_5Examples: the chapter's gaps.
func TestP5_5Examples(t *testing.T) {
	k := newKit(t)
	wantGaps(t, k.Table, "example 1", k.structOf(plain("c", idChar), plain("i", idInt), plain("s", idShort)), api.Gap{From: 8, Bits: 24}, api.Gap{From: 80, Bits: 16})
	wantGaps(t, k.Table, "example 3", k.unionOf(plain("a", k.arrayOf(idChar, 3)), plain("s", idShort)), api.Gap{From: 24, Bits: 8})
}

// TestP5_5None: scalars, and what is made of them without padding, have no gaps.
func TestP5_5None(t *testing.T) {
	k := newKit(t)
	for id := idBool; id <= idULong; id++ {
		wantGaps(t, k.Table, "a basic type", id)
		wantGaps(t, k.Table, "an array", k.arrayOf(id, 5))
		wantGaps(t, k.Table, "a struct", k.structOf(plain("a", id)))
	}
	wantGaps(t, k.Table, "an enumeration", k.took(k.Enum("E")))
	wantGaps(t, k.Table, "a pointer", k.took(k.Ptr(k.took(k.Struct("S")))))
	wantGaps(t, k.Table, "a full unit", k.structOf(field("a", idInt, 5), field("b", idInt, 27)))
	wantGaps(t, k.Table, "a struct of bytes", k.structOf(plain("a", idChar), plain("b", k.arrayOf(idBool, 2)), plain("c", idUChar)))
}

// TestP5_5Bits: of bit-fields what they do not have is free, of those without a name all of it.
func TestP5_5Bits(t *testing.T) {
	k := newKit(t)
	wantGaps(t, k.Table, "struct{int a : 3}", k.structOf(field("a", idInt, 3)), api.Gap{From: 3, Bits: 29})
	wantGaps(t, k.Table, "struct{_Bool a : 1}", k.structOf(field("a", idBool, 1)), api.Gap{From: 1, Bits: 7})
	wantGaps(t, k.Table, "a : 3, b : 30, char", k.structOf(field("a", idInt, 3), field("b", idInt, 30), plain("c", idChar)), api.Gap{From: 3, Bits: 29}, api.Gap{From: 62, Bits: 2}, api.Gap{From: 72, Bits: 24})
	wantGaps(t, k.Table, "bits without a name between others", k.structOf(field("a", idInt, 3), field("", idInt, 4), field("b", idInt, 1), plain("c", idChar)), api.Gap{From: 3, Bits: 4}, api.Gap{From: 16, Bits: 16})
	wantGaps(t, k.Table, "0 bits between others", k.structOf(field("a", idChar, 7), field("", idInt, 0), field("b", idChar, 8)), api.Gap{From: 7, Bits: 25})
	wantGaps(t, k.Table, "only bits without a name", k.structOf(field("", idInt, 17)), api.Gap{Bits: 24})
	wantGaps(t, k.Table, "only 0 bits", k.structOf(field("", idInt, 0)), api.Gap{Bits: 8})
	wantGaps(t, k.Table, "a union of bits", k.unionOf(field("a", idInt, 3), field("b", idShort, 9), field("", idInt, 30)), api.Gap{From: 9, Bits: 23})
	wantGaps(t, k.Table, "a union of only 0 bits", k.unionOf(field("", idInt, 0)), api.Gap{Bits: 8})
	wantGaps(t, k.Table, "bits behind a byte", k.structOf(plain("c", idChar), field("a", idInt, 9), plain("d", idChar)), api.Gap{From: 17, Bits: 7})
}

// TestP5_5Unions: a union has what any of its members has.
func TestP5_5Unions(t *testing.T) {
	k := newKit(t)
	wide := k.structOf(plain("c", idChar), plain("i", idInt))
	late := k.structOf(field("", idInt, 8), field("f", idInt, 4), plain("d", idShort))
	wantGaps(t, k.Table, "wide", wide, api.Gap{From: 8, Bits: 24})
	wantGaps(t, k.Table, "late", late, api.Gap{Bits: 8}, api.Gap{From: 12, Bits: 4})
	wantGaps(t, k.Table, "both", k.unionOf(plain("a", wide), plain("b", late)), api.Gap{From: 12, Bits: 4})
	wantGaps(t, k.Table, "both, and bits", k.unionOf(plain("a", wide), plain("b", late), field("g", idInt, 14)), api.Gap{From: 14, Bits: 2})
	wantGaps(t, k.Table, "a short one", k.unionOf(plain("c", idChar), plain("p", k.arrayOf(idShort, 3)), field("z", idInt, 1)), api.Gap{From: 48, Bits: 16})
}

// TestP5_5Arrays: of arrays of structs the padding at one's end and at the next one's beginning is one gap.
func TestP5_5Arrays(t *testing.T) {
	k := newKit(t)
	tail := k.structOf(plain("i", idInt), plain("c", idChar))
	wantGaps(t, k.Table, "padding at the end", k.arrayOf(tail, 3), api.Gap{From: 40, Bits: 24}, api.Gap{From: 104, Bits: 24}, api.Gap{From: 168, Bits: 24})
	both := k.structOf(field("", idChar, 5), field("f", idShort, 6))
	wantExtent(t, k.Table, "padding at both ends", both, 2, 2)
	wantGaps(t, k.Table, "padding at both ends", k.arrayOf(both, 3), api.Gap{Bits: 5}, api.Gap{From: 11, Bits: 10}, api.Gap{From: 27, Bits: 10}, api.Gap{From: 43, Bits: 5})
	none := k.structOf(field("", idInt, 3))
	wantGaps(t, k.Table, "nothing at all", k.arrayOf(k.arrayOf(none, 4), 3), api.Gap{Bits: 96})
	outer := k.structOf(plain("s", idShort), plain("a", k.arrayOf(tail, 2)), plain("n", none), plain("c", idChar))
	wantGaps(t, k.Table, "an array within a struct", outer, api.Gap{From: 16, Bits: 16}, api.Gap{From: 72, Bits: 24}, api.Gap{From: 136, Bits: 32}, api.Gap{From: 176, Bits: 16})
	grid := k.arrayOf(k.arrayOf(k.structOf(field("a", idChar, 1)), 128), 128)
	if l, err := Gaps(k.Table, grid); len(l) != 16384 || l[16383] != (api.Gap{From: 131065, Bits: 7}) || err != api.OK {
		t.Errorf("%d gaps of the greatest array, %d", len(l), err)
	}
}

// TestP5_5Any: the gaps of grown types are those of the second telling.
func TestP5_5Any(t *testing.T) {
	n := 0
	for seed := range int64(250) {
		c := grown(t, seed)
		for id := firstFree; id < c.Len(); id++ {
			if !c.Whole(id) || tell(c, id).large {
				continue
			}
			want := slowGaps(c, id)
			n += len(want)
			wantGaps(t, c, "a grown type", id, want...)
		}
		if t.Failed() {
			t.Fatalf("seed %d", seed)
		}
	}
	if n < 1000 {
		t.Errorf("only %d gaps", n)
	}
}

package layout

import (
	"math"
	"slices"
	"testing"
	"time"

	"mortise/api"
	"mortise/ctype"
)

// TestP5_1Scalars: a scalar's size and alignment are its width.
func TestP5_1Scalars(t *testing.T) {
	k := newKit(t)
	for id, n := range []int{idBool: 1, idChar: 1, idSChar: 1, idUChar: 1, idShort: 2, idUShort: 2, idInt: 4, idUInt: 4, idLong: 4, idULong: 4} {
		if id != idVoid {
			wantExtent(t, k.Table, "a basic type", id, n, n)
		}
	}
	wantExtent(t, k.Table, "an enumeration", k.took(k.Enum("E")), 4, 4)
	open := k.took(k.Struct("S"))
	huge := k.arrayOf(k.arrayOf(idInt, 16384), 16384)
	for _, id := range []int{idVoid, idChar, open, huge, k.arrayOf(idInt, -1)} {
		wantExtent(t, k.Table, "a pointer", k.took(k.Ptr(id)), 4, 4)
	}
}

// TestP5_1Arrays: an array has its elements' sizes together, and the alignment of one.
func TestP5_1Arrays(t *testing.T) {
	k := newKit(t)
	wantExtent(t, k.Table, "char[1]", k.arrayOf(idChar, 1), 1, 1)
	wantExtent(t, k.Table, "char[7]", k.arrayOf(idChar, 7), 7, 1)
	wantExtent(t, k.Table, "short[3]", k.arrayOf(idShort, 3), 6, 2)
	wantExtent(t, k.Table, "int[3][2]", k.arrayOf(k.arrayOf(idInt, 2), 3), 24, 4)
	wantExtent(t, k.Table, "void *[5]", k.arrayOf(k.took(k.Ptr(idVoid)), 5), 20, 4)
	pair := k.structOf(plain("i", idInt), plain("c", idChar))
	wantExtent(t, k.Table, "an array of structs", k.arrayOf(pair, 3), 24, 4)
	narrow := k.structOf(plain("c", idChar), field("", idInt, 0), plain("d", idChar))
	wantExtent(t, k.Table, "an array of structs of an odd size", k.arrayOf(narrow, 3), 15, 1)
	either := k.unionOf(plain("c", k.arrayOf(idChar, 3)), plain("s", idShort))
	wantExtent(t, k.Table, "an array of unions", k.arrayOf(either, 3), 12, 2)
}

// TestP5_1Nil: a table that no call made is refused ahead of all else.
func TestP5_1Nil(t *testing.T) {
	for _, c := range []*ctype.Table{nil, {}} {
		for _, id := range []int{-1, idVoid, idInt, firstFree, math.MaxInt} {
			wantRefused(t, c, "a table that no call made", id, api.ErrNil)
		}
	}
}

// TestP5_1NoType: what is no type is refused, of each call.
func TestP5_1NoType(t *testing.T) {
	k := newKit(t)
	k.structOf(plain("a", idInt))
	for _, id := range []int{-1, -7, k.Len(), k.Len() + 1, 512, 1 << 20, 1<<32 + 7, -1<<32 + 7, math.MaxInt, math.MinInt} {
		wantRefused(t, k.Table, "no type", id, api.ErrType)
	}
}

// TestP5_1Incomplete: what has no size is refused, of each call, ahead of what its line names.
func TestP5_1Incomplete(t *testing.T) {
	k := newKit(t)
	row := k.structOf(plain("a", idInt))
	huge := k.arrayOf(k.arrayOf(idInt, 16384), 16384)
	for _, id := range []int{
		idVoid, k.took(k.Struct("S")), k.took(k.Union("U")),
		k.arrayOf(idInt, -1), k.arrayOf(row, -1), k.arrayOf(huge, -1),
	} {
		wantRefused(t, k.Table, "a type without a size", id, api.ErrIncomplete)
	}
}

// TestP5_1IncompleteWithin: what points to a type without a size has one, alone and within others; once the type has its members, it has one too.
func TestP5_1IncompleteWithin(t *testing.T) {
	k := newKit(t)
	list := k.took(k.Struct("List"))
	next := k.took(k.Ptr(list))
	holder := k.structOf(plain("c", idChar), plain("next", next), plain("row", k.took(k.Ptr(k.arrayOf(next, -1)))))
	wantExtent(t, k.Table, "a struct with pointers", holder, 12, 4)
	wantRefused(t, k.Table, "a struct without members", list, api.ErrIncomplete)
	if err := k.Complete(list, []api.Member{plain("next", next), plain("c", idChar)}); err != api.OK {
		t.Fatal(err)
	}
	wantExtent(t, k.Table, "a struct that points to itself", list, 8, 4)
	wantExtent(t, k.Table, "a struct with pointers", holder, 12, 4)
}

// TestP5_1Most: types of 16384 bytes have a layout.
func TestP5_1Most(t *testing.T) {
	k := newKit(t)
	chars := k.arrayOf(idChar, 16384)
	near := k.arrayOf(idChar, 16383)
	wantExtent(t, k.Table, "char[16384]", chars, 16384, 1)
	wantExtent(t, k.Table, "short[8192]", k.arrayOf(idShort, 8192), 16384, 2)
	wantExtent(t, k.Table, "int[4096]", k.arrayOf(idInt, 4096), 16384, 4)
	wantExtent(t, k.Table, "char[128][128]", k.arrayOf(k.arrayOf(idChar, 128), 128), 16384, 1)
	wantExtent(t, k.Table, "struct{char[16384]}", k.structOf(plain("a", chars)), 16384, 1)
	wantExtent(t, k.Table, "struct{char[16384]}[1]", k.arrayOf(k.structOf(plain("a", chars)), 1), 16384, 1)
	wantExtent(t, k.Table, "struct{char[16383]; char}", k.structOf(plain("a", near), plain("b", idChar)), 16384, 1)
	wantExtent(t, k.Table, "struct{char[16383]; char : 8}", k.structOf(plain("a", near), field("b", idChar, 8)), 16384, 1)
	wantExtent(t, k.Table, "struct{char[16384]; int : 0}", k.structOf(plain("a", chars), field("", idInt, 0)), 16384, 1)
	wantExtent(t, k.Table, "struct{int : 5; char[16383]}", k.structOf(field("b", idInt, 5), plain("a", near)), 16384, 4)
	wantExtent(t, k.Table, "union{char[16384]; char[16383]; int}", k.unionOf(plain("a", chars), plain("b", near), plain("c", idInt)), 16384, 4)
	wantGaps(t, k.Table, "char[16384]", chars)
	if p, err := Walk(k.Table, chars, []api.Hop{{Index: 16383}}); p != (api.Place{Type: idChar, Off: 16383}) || err != api.OK {
		t.Errorf("Walk to the last byte = %v, %d", p, err)
	}
}

// TestP5_1Large: types of more bytes are refused, of each call, ahead of what its line names.
func TestP5_1Large(t *testing.T) {
	k := newKit(t)
	chars := k.arrayOf(idChar, 16384)
	near := k.arrayOf(idChar, 16381)
	shorts := k.arrayOf(idShort, 8193)
	for _, id := range []int{
		shorts, k.arrayOf(idInt, 4097), k.arrayOf(chars, 2), k.arrayOf(k.arrayOf(idChar, 129), 128),
		k.structOf(plain("a", chars), plain("b", idChar)),
		k.structOf(plain("a", chars), field("b", idChar, 1)),
		k.structOf(plain("a", chars), field("", idChar, 1)),
		k.structOf(plain("a", idChar), plain("b", chars)),
		k.structOf(plain("b", idInt), plain("a", near)),
		k.structOf(plain("a", idInt), field("", idChar, 1), field("", idInt, 0), plain("b", k.arrayOf(idChar, 16377))),
	} {
		wantRefused(t, k.Table, "a type that is too large", id, api.ErrLarge)
		wantRefused(t, k.Table, "an array of it", k.arrayOf(id, 1), api.ErrLarge)
		wantRefused(t, k.Table, "a struct with it", k.structOf(plain("x", idInt), plain("a", id)), api.ErrLarge)
		wantRefused(t, k.Table, "a union with it", k.unionOf(plain("a", id), field("f", idInt, 3)), api.ErrLarge)
		wantRefused(t, k.Table, "a struct with arrays of it", k.structOf(plain("a", k.arrayOf(k.structOf(plain("a", id)), 3))), api.ErrLarge)
		wantExtent(t, k.Table, "a struct with a pointer to it", k.structOf(plain("a", k.took(k.Ptr(id)))), 4, 4)
	}
}

// TestP5_1Rounded: what is rounded up to its alignment may be too large by that alone, or just not.
func TestP5_1Rounded(t *testing.T) {
	k := newKit(t)
	row := k.arrayOf(idChar, 16380)
	wantExtent(t, k.Table, "struct{char[16380]; int}", k.structOf(plain("a", row), plain("i", idInt)), 16384, 4)
	wantExtent(t, k.Table, "struct{int; char[16377]}", k.structOf(plain("i", idInt), plain("a", k.arrayOf(idChar, 16377))), 16384, 4)
	wantExtent(t, k.Table, "union{char[16381]; int}", k.unionOf(plain("a", k.arrayOf(idChar, 16381)), plain("i", idInt)), 16384, 4)
	wantRefused(t, k.Table, "struct{char[16381]; int}", k.structOf(plain("a", k.arrayOf(idChar, 16381)), plain("i", idInt)), api.ErrLarge)
}

// TestP5_1Huge: no product of lengths comes round to a size that may be.
func TestP5_1Huge(t *testing.T) {
	for _, n := range []int{2, 3, 256, 16384} {
		k := newKit(t)
		id, size := idInt, 4
		for k.Len() < api.MaxTypes {
			id = k.arrayOf(id, n)
			size = min(size*n, 1<<40)
			if size <= 16384 {
				wantExtent(t, k.Table, "an array", id, size, 4)
			} else {
				wantRefused(t, k.Table, "a huge array", id, api.ErrLarge)
			}
		}
	}
}

// full are 64 members of one type.
func full(id int) []api.Member {
	l := make([]api.Member, api.MaxMembers)
	for i := range l {
		l[i] = plain("m"+string(rune('A'+i/26))+string(rune('a'+i%26)), id)
	}
	return l
}

// TestP5_1Often: a type that stands more often within another one than could be counted is measured all the same.
func TestP5_1Often(t *testing.T) {
	begun := time.Now()
	k := newKit(t)
	for id := k.unionOf(full(idChar)...); k.Len() < 300; {
		id = k.unionOf(full(id)...)
	}
	last := k.Len() - 1
	wantExtent(t, k.Table, "unions within unions", last, 1, 1)
	wantGaps(t, k.Table, "unions within unions", last)
	if p, err := Walk(k.Table, last, []api.Hop{{Name: "mCl"}, {Name: "mAa"}}); p != (api.Place{Member: 0, Type: last - 2}) || err != api.OK {
		t.Errorf("Walk = %v, %d", p, err)
	}
	if l, err := Places(k.Table, last); len(l) != 64 || l[63] != (api.Place{Member: 63, Type: last - 1}) || err != api.OK {
		t.Errorf("Places = %v, %d", l, err)
	}
	for id := k.structOf(full(idChar)...); k.Len() < 500; {
		id = k.structOf(full(id)...)
	}
	wantRefused(t, k.Table, "structs within structs", k.Len()-1, api.ErrLarge)
	if d := time.Since(begun); d > 20*time.Second {
		t.Errorf("it took %v", d)
	}
}

// TestP5_1Deep: types may lie within each other as deep as a table has rows.
func TestP5_1Deep(t *testing.T) {
	k := newKit(t)
	id := idShort
	var hops []api.Hop
	for k.Len() < api.MaxTypes {
		id = k.structOf(plain("c", idChar), plain("deep", id))
		hops = append(hops, api.Hop{Name: "deep"})
	}
	size := 2 + 2*len(hops)
	wantExtent(t, k.Table, "structs within structs", id, size, 2)
	if p, err := Walk(k.Table, id, hops); p != (api.Place{Member: 1, Type: idShort, Off: size - 2}) || err != api.OK {
		t.Errorf("Walk = %v, %d", p, err)
	}
	if l, err := Gaps(k.Table, id); len(l) != len(hops) || l[0] != (api.Gap{From: 8, Bits: 8}) || l[len(l)-1] != (api.Gap{From: 8 * (size - 3), Bits: 8}) || err != api.OK {
		t.Errorf("Gaps = %v, %d", l, err)
	}
	hops = slices.Concat(hops, hops)
	if p, err := Walk(k.Table, id, hops); p != (api.Place{}) || err != api.ErrType {
		t.Errorf("Walk too far = %v, %d", p, err)
	}
}

// TestP5_1Any: sizes and alignments of grown types are those of the second telling.
func TestP5_1Any(t *testing.T) {
	large := 0
	for seed := range int64(400) {
		c := grown(t, seed)
		for id := firstFree; id < c.Len(); id++ {
			if !c.Whole(id) {
				wantRefused(t, c, "a grown type without a size", id, api.ErrIncomplete)
				continue
			}
			s := tell(c, id)
			if s.large {
				large++
				wantRefused(t, c, "a grown type that is too large", id, api.ErrLarge)
				continue
			}
			wantExtent(t, c, "a grown type", id, s.size, s.align)
		}
		if t.Failed() {
			t.Fatalf("seed %d: %v", seed, c.Rows()[firstFree:])
		}
	}
	if large < 100 {
		t.Errorf("only %d types were too large", large)
	}
}

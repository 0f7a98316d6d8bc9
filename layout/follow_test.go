package layout

import (
	"reflect"
	"slices"
	"testing"

	"mortise/api"
	"mortise/ctype"
)

// holds are the bits that a place has, from the first one to the one behind the last.
func holds(t *testing.T, c *ctype.Table, p api.Place) (from, end int) {
	from, bits := 8*p.Off+p.Bit, p.Bits
	if bits == 0 {
		size, _ := Size(c, p.Type)
		bits = 8 * size
	}
	return from, from + bits
}

// wantStruct asks what follows of a struct's members.
func wantStruct(t *testing.T, c *ctype.Table, id, size int, places []api.Place) {
	t.Helper()
	last := 0
	for _, p := range places {
		from, end := holds(t, c, p)
		if from < last || end > 8*size {
			t.Errorf("member %v of %d shares a bit, or is not within %d bytes", p, id, size)
		}
		last = end
	}
}

// wantMember asks what follows of one member.
func wantMember(t *testing.T, c *ctype.Table, p api.Place) {
	t.Helper()
	size, _ := Size(c, p.Type)
	align, _ := Align(c, p.Type)
	if p.Off%align != 0 {
		t.Errorf("member %v is not aligned to %d", p, align)
	}
	if p.Bits > 0 && p.Bit+p.Bits > 8*size {
		t.Errorf("bit-field %v is not within its unit", p)
	}
	if p.Bits == 0 && p.Bit != 0 {
		t.Errorf("%v is no bit-field", p)
	}
}

// cover are the bits that what members have and the gaps are together: each of a struct's just once.
func cover(t *testing.T, c *ctype.Table, id, size int) {
	t.Helper()
	row, _ := c.Row(id)
	times := make([]int, 8*size)
	places, _ := Places(c, id)
	for _, p := range places {
		if row.Members[p.Member].Name == "" {
			continue
		}
		from, end := holds(t, c, p)
		var inner []api.Gap
		if p.Bits == 0 {
			inner, _ = Gaps(c, p.Type)
		}
		for i := from; i < end; i++ {
			times[i]++
		}
		for _, g := range inner {
			for i := range g.Bits {
				times[from+g.From+i]--
			}
		}
	}
	gaps, _ := Gaps(c, id)
	for _, g := range gaps {
		for i := g.From; i < g.From+g.Bits; i++ {
			if times[i] != 0 {
				t.Fatalf("bit %d of %d is in a gap and in a member", i, id)
			}
			times[i] = 1
		}
	}
	if i := slices.IndexFunc(times, func(n int) bool { return n < 1 || n > 1 && row.Kind == api.TStruct }); i >= 0 {
		t.Fatalf("bit %d of %d is had %d times", i, id, times[i])
	}
}

// TestP5_6Follow: what follows, of grown types.
func TestP5_6Follow(t *testing.T) {
	for seed := range int64(400) {
		c := grown(t, 1000+seed)
		for id := firstFree; id < c.Len(); id++ {
			size, err := Size(c, id)
			if err != api.OK {
				continue
			}
			align, _ := Align(c, id)
			if size < 1 || align < 1 || size%align != 0 {
				t.Errorf("type %d has %d bytes, aligned to %d", id, size, align)
			}
			row, _ := c.Row(id)
			places, _ := Places(c, id)
			for _, p := range places {
				wantMember(t, c, p)
				if row.Kind == api.TUnion && (p.Off != 0 || p.Bit != 0) {
					t.Errorf("member %v of a union", p)
				}
			}
			if row.Kind == api.TStruct {
				wantStruct(t, c, id, size, places)
			}
			if row.Done {
				cover(t, c, id, size)
			}
		}
		if t.Failed() {
			t.Fatalf("seed %d: %v", 1000+seed, c.Rows()[firstFree:])
		}
	}
}

// TestP5_6Sum: of members without padding the size is the sum.
func TestP5_6Sum(t *testing.T) {
	k := newKit(t)
	id, sum := idInt, 4
	for i := range 20 {
		id = k.structOf(plain("a", id), plain("b", idInt), plain("c", idShort), plain("d", k.arrayOf(idChar, 2)), field("e", idInt, 8), field("f", idInt, 24))
		sum += 12
		wantExtent(t, k.Table, "structs without padding", id, sum, 4)
		if l, err := Gaps(k.Table, id); len(l) != 0 || err != api.OK {
			t.Errorf("step %d: Gaps = %v, %d", i, l, err)
		}
	}
}

// TestP5_6NewMemory: what is answered is the caller's own, what is handed in stays as it is.
func TestP5_6NewMemory(t *testing.T) {
	for seed := range int64(30) {
		c := grown(t, seed)
		before := c.Rows()
		for id := range c.Len() {
			hops := []api.Hop{at(0), to("m0"), to("m1"), at(1)}
			kept := slices.Clone(hops)
			for n := range len(hops) + 1 {
				Walk(c, id, hops[:n])
			}
			if !slices.Equal(hops, kept) {
				t.Fatalf("Walk changed its hops: %v", hops)
			}
			wantOwn(t, func() ([]api.Place, api.Errno) { return Places(c, id) }, api.Place{Off: -1})
			wantOwn(t, func() ([]api.Gap, api.Errno) { return Gaps(c, id) }, api.Gap{From: -1})
			Find(c, id, "m0")
		}
		if !reflect.DeepEqual(before, c.Rows()) {
			t.Fatalf("seed %d: the table was changed", seed)
		}
	}
}

// wantOwn asks that a list can be written over, and the next answer is as the first was.
func wantOwn[T comparable](t *testing.T, call func() ([]T, api.Errno), other T) {
	t.Helper()
	l, err := call()
	first := slices.Clone(l)
	for i := range l {
		l[i] = other
	}
	again, err2 := call()
	if !slices.Equal(again, first) || err2 != err {
		t.Fatalf("answered %v, %d, and then %v, %d", first, err, again, err2)
	}
}

// TestP5_6Same: a copy of a table, and a table of its rows, have the same layout; a change of the one is none of the other.
func TestP5_6Same(t *testing.T) {
	k := newKit(t)
	open := k.took(k.Struct("S"))
	other := k.Copy()
	if err := k.Complete(open, []api.Member{plain("a", idInt)}); err != api.OK {
		t.Fatal(err)
	}
	wantExtent(t, k.Table, "a struct that is done", open, 4, 4)
	wantRefused(t, other, "the copy's struct", open, api.ErrIncomplete)
	// Rows may name types that stand behind them.
	rows := append(ctype.New().Rows(),
		api.TypeRow{Kind: api.TStruct, Tag: "S", Done: true, Members: []api.Member{plain("u", 12), field("f", idInt, 3), plain("c", idChar)}},
		api.TypeRow{Kind: api.TUnion, Tag: "U", Done: true, Members: []api.Member{plain("a", 13), plain("s", idShort)}},
		api.TypeRow{Kind: api.TArray, Elem: idChar, Len: 5})
	c, err := ctype.From(rows)
	if err != api.OK {
		t.Fatal(err)
	}
	wantExtent(t, c, "a struct of later types", 11, 8, 4)
	wantPlaces(t, c, "a struct of later types", 11, api.Place{Type: 12}, api.Place{Member: 1, Type: idInt, Off: 4, Bit: 16, Bits: 3}, api.Place{Member: 2, Type: idChar, Off: 7})
}

// TestP5_6Rounding: rounding up gives the least multiple from a number on, of bits as of bytes.
func TestP5_6Rounding(t *testing.T) {
	for step := 1; step <= 32; step++ {
		for n := range 200 {
			want := upTo(n, step)
			if got, inBits := roundUp(n, step), roundUp(bits(n), bits(step)); got != want || int(inBits) != want {
				t.Fatalf("roundUp(%d, %d) = %d, %d, want %d", n, step, got, inBits, want)
			}
		}
	}
}

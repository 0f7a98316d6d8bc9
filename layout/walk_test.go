package layout

import (
	"math"
	"math/rand"
	"slices"
	"testing"

	"mortise/api"
	"mortise/ctype"
)

// to and at are hops.
func to(name string) api.Hop { return api.Hop{Name: name} }
func at(i int) api.Hop       { return api.Hop{Index: i} }

// wantWalk asks what hops come to.
func wantWalk(t *testing.T, c *ctype.Table, id int, want api.Place, hops ...api.Hop) {
	t.Helper()
	if p, err := Walk(c, id, hops); p != want || err != api.OK {
		t.Errorf("Walk(%d, %v) = %v, %d, want %v, 0", id, hops, p, err, want)
	}
}

// wantNoWalk asks that hops come to nothing.
func wantNoWalk(t *testing.T, c *ctype.Table, id int, hops ...api.Hop) {
	t.Helper()
	if p, err := Walk(c, id, hops); p != (api.Place{}) || err != api.ErrType {
		t.Errorf("Walk(%d, %v) = %v, %d, want a zero place, %d", id, hops, p, err, api.ErrType)
	}
}

// TestP5_4Nowhere: without hops the object itself is come to.
func TestP5_4Nowhere(t *testing.T) {
	k := newKit(t)
	for _, id := range []int{idBool, idInt, k.took(k.Ptr(idVoid)), k.arrayOf(idInt, 3), k.structOf(plain("a", idInt)), k.unionOf(field("", idInt, 3))} {
		wantWalk(t, k.Table, id, api.Place{Type: id})
		if p, err := Walk(k.Table, id, []api.Hop{}); p != (api.Place{Type: id}) || err != api.OK {
			t.Errorf("Walk by an empty list = %v, %d", p, err)
		}
	}
}

// TestP5_4Indices: an index is from 0 below the array's length.
func TestP5_4Indices(t *testing.T) {
	k := newKit(t)
	two := k.arrayOf(idInt, 2)
	grid := k.arrayOf(two, 3)
	wantWalk(t, k.Table, grid, api.Place{Type: idInt, Off: 12}, at(1), at(1))
	wantWalk(t, k.Table, grid, api.Place{Type: two}, at(0))
	wantWalk(t, k.Table, grid, api.Place{Type: two, Off: 16}, at(2))
	wantWalk(t, k.Table, grid, api.Place{Type: idInt, Off: 20}, at(2), at(1))
	one := k.arrayOf(idChar, 1)
	wantWalk(t, k.Table, one, api.Place{Type: idChar}, at(0))
	for _, i := range []int{-1, 3, 4, -3, 1 << 32, 1<<32 + 1, -1 << 32, math.MaxInt, math.MinInt} {
		wantNoWalk(t, k.Table, grid, at(i))
		wantNoWalk(t, k.Table, grid, at(0), at(i))
		wantNoWalk(t, k.Table, one, at(i))
	}
	wantNoWalk(t, k.Table, grid, at(0), at(2))
	wantNoWalk(t, k.Table, one, at(1))
}

// TestP5_4Names: a hop with a name goes to that member, whatever its Index; the last such hop tells the Member.
func TestP5_4Names(t *testing.T) {
	k := newKit(t)
	bits := k.structOf(field("f", idInt, 3), field("g", idInt, 30), field("", idInt, 1))
	three := k.arrayOf(bits, 3)
	in := k.structOf(plain("c", idChar), plain("a", three))
	id := k.structOf(plain("s", idShort), plain("x", idInt), plain("in", in))
	wantWalk(t, k.Table, id, api.Place{Member: 2, Type: in, Off: 8}, to("in"))
	wantWalk(t, k.Table, id, api.Place{Member: 1, Type: three, Off: 12}, to("in"), to("a"))
	wantWalk(t, k.Table, id, api.Place{Member: 1, Type: bits, Off: 28}, to("in"), to("a"), at(2))
	wantWalk(t, k.Table, id, api.Place{Member: 1, Type: idInt, Off: 32, Bits: 30}, to("in"), to("a"), at(2), to("g"))
	wantWalk(t, k.Table, id, api.Place{Type: idInt, Off: 20, Bits: 3}, to("in"), to("a"), at(1), to("f"))
	wantWalk(t, k.Table, id, api.Place{Member: 1, Type: idInt, Off: 4}, api.Hop{Name: "x", Index: -5})
	wantWalk(t, k.Table, three, api.Place{Member: 1, Type: idInt, Off: 12, Bits: 30}, at(1), api.Hop{Name: "g", Index: 99})
	u := k.unionOf(plain("c", idChar), plain("in", in), field("b", idUInt, 7))
	wantWalk(t, k.Table, k.arrayOf(u, 2), api.Place{Member: 1, Type: bits, Off: 28 + 12}, at(1), to("in"), to("a"), at(1))
	wantWalk(t, k.Table, k.arrayOf(u, 2), api.Place{Member: 2, Type: idUInt, Off: 28, Bits: 7}, at(1), to("b"))
	wantWalk(t, k.Table, k.structOf(field("a", idInt, 5), field("b", idInt, 6)), api.Place{Member: 1, Type: idInt, Bit: 5, Bits: 6}, to("b"))
}

// TestP5_4Wrong: a name of what has no such member, and an index of what is no array.
func TestP5_4Wrong(t *testing.T) {
	k := newKit(t)
	row := k.structOf(plain("a", idInt), field("", idInt, 2), field("f", idInt, 3))
	u := k.unionOf(plain("a", row))
	p := k.took(k.Ptr(row))
	two := k.arrayOf(row, 2)
	for _, id := range []int{idBool, idInt, k.took(k.Enum("E")), p, row, u} {
		wantNoWalk(t, k.Table, id, at(0))
	}
	for _, id := range []int{idBool, idInt, k.took(k.Enum("E")), p, two} {
		wantNoWalk(t, k.Table, id, to("a"))
	}
	for _, name := range []string{"b", "A", "aa", "#1", "S", " "} {
		wantNoWalk(t, k.Table, row, to(name))
		wantNoWalk(t, k.Table, u, to("a"), to(name))
		wantNoWalk(t, k.Table, two, at(1), to(name))
	}
	wantNoWalk(t, k.Table, row, to("a"), to("a"))
	wantNoWalk(t, k.Table, row, to("a"), at(0))
	wantNoWalk(t, k.Table, row, to("f"), at(0))
	wantNoWalk(t, k.Table, row, to("f"), to("f"))
	wantNoWalk(t, k.Table, k.structOf(plain("p", p)), to("p"), to("a"))
	wantNoWalk(t, k.Table, two, at(2), to("a"))
	wantNoWalk(t, k.Table, row, to("b"), to("a"))
}

// TestP5_4Long: a list of hops may be as long as it likes.
func TestP5_4Long(t *testing.T) {
	k := newKit(t)
	hops := slices.Repeat([]api.Hop{at(0)}, 1<<20)
	wantNoWalk(t, k.Table, k.arrayOf(idInt, 1), hops...)
	hops[0] = to("a")
	wantNoWalk(t, k.Table, k.structOf(plain("a", idInt)), hops...)
}

// stray goes on at random from a place that was come to, by the second telling, and answers the hop and what it comes to, or false, if nothing goes on there.
func stray(c *ctype.Table, r *rand.Rand, from api.Place) (api.Hop, api.Place, bool) {
	row, _ := c.Row(from.Type)
	if row.Kind == api.TArray {
		i := r.Intn(row.Len)
		return at(i), api.Place{Member: from.Member, Type: row.Elem, Off: from.Off + i*tell(c, row.Elem).size}, true
	}
	l := slices.DeleteFunc(tell(c, from.Type).places, func(p api.Place) bool { return row.Members[p.Member].Name == "" })
	if len(l) == 0 {
		return api.Hop{}, api.Place{}, false
	}
	p := l[r.Intn(len(l))]
	p.Off += from.Off
	return api.Hop{Name: row.Members[p.Member].Name, Index: r.Intn(9) - 4}, p, true
}

// TestP5_4Any: ways through grown types come to where the second telling says; a wrong hop behind any of them to nothing.
func TestP5_4Any(t *testing.T) {
	deepest := 0
	for seed := range int64(300) {
		c := grown(t, seed)
		r := rand.New(rand.NewSource(seed))
		for id := firstFree; id < c.Len(); id++ {
			if !c.Whole(id) || tell(c, id).large {
				continue
			}
			want, hops := api.Place{Type: id}, []api.Hop(nil)
			for {
				wantWalk(t, c, id, want, hops...)
				row, _ := c.Row(want.Type)
				for _, wrong := range []api.Hop{to("no"), at(-1), at(row.Len)} {
					wantNoWalk(t, c, id, append(slices.Clone(hops), wrong)...)
				}
				h, next, ok := stray(c, r, want)
				if !ok {
					break
				}
				want, hops = next, append(hops, h)
			}
			deepest = max(deepest, len(hops))
		}
		if t.Failed() {
			t.Fatalf("seed %d: %v", seed, c.Rows()[firstFree:])
		}
	}
	if deepest < 5 {
		t.Errorf("no way had more than %d hops", deepest)
	}
}

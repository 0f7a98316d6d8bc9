package layout

import (
	"math/rand"
	"slices"
	"strconv"
	"testing"

	"mortise/api"
	"mortise/ctype"
)

// The basic types' numbers.
const (
	idVoid = iota
	idBool
	idChar
	idSChar
	idUChar
	idShort
	idUShort
	idInt
	idUInt
	idLong
	idULong
	firstFree
)

// kit makes types of a table of its own, and fails if one is refused.
type kit struct {
	*ctype.Table
	t testing.TB
}

// newKit answers a kit with a new table.
func newKit(t testing.TB) kit { return kit{Table: ctype.New(), t: t} }

// took answers a type's number, if it was not refused.
func (k kit) took(id int, err api.Errno) int {
	k.t.Helper()
	if err != api.OK {
		k.t.Fatalf("a type was refused: %d", err)
	}
	return id
}

// record makes a struct or a union of members.
func (k kit) record(id int, err api.Errno, members []api.Member) int {
	k.t.Helper()
	k.took(id, err)
	return k.took(id, k.Complete(id, members))
}

// structOf makes a struct.
func (k kit) structOf(members ...api.Member) int {
	k.t.Helper()
	id, err := k.Struct("S")
	return k.record(id, err, members)
}

// unionOf makes a union.
func (k kit) unionOf(members ...api.Member) int {
	k.t.Helper()
	id, err := k.Union("U")
	return k.record(id, err, members)
}

// arrayOf makes an array.
func (k kit) arrayOf(elem, n int) int {
	k.t.Helper()
	return k.took(k.Array(elem, n))
}

// plain is a member that is no bit-field.
func plain(name string, id int) api.Member { return api.Member{Name: name, Type: id, Bits: -1} }

// field is a bit-field.
func field(name string, id, bits int) api.Member { return api.Member{Name: name, Type: id, Bits: bits} }

// wantExtent asks for a type's size and alignment.
func wantExtent(t *testing.T, c *ctype.Table, what string, id, size, align int) {
	t.Helper()
	n, err := Size(c, id)
	if n != size || err != api.OK {
		t.Errorf("%s: Size = %d, %d, want %d, 0", what, n, err, size)
	}
	n, err = Align(c, id)
	if n != align || err != api.OK {
		t.Errorf("%s: Align = %d, %d, want %d, 0", what, n, err, align)
	}
}

// wantPlaces asks for the places of a struct or a union.
func wantPlaces(t *testing.T, c *ctype.Table, what string, id int, want ...api.Place) {
	t.Helper()
	l, err := Places(c, id)
	if !slices.Equal(l, want) || err != api.OK {
		t.Errorf("%s: Places = %v, %d, want %v, 0", what, l, err, want)
	}
}

// wantGaps asks for a type's gaps.
func wantGaps(t *testing.T, c *ctype.Table, what string, id int, want ...api.Gap) {
	t.Helper()
	l, err := Gaps(c, id)
	if !slices.Equal(l, want) || err != api.OK {
		t.Errorf("%s: Gaps = %v, %d, want %v, 0", what, l, err, want)
	}
}

// wantRefused asks that each call refuses a type with the same error, and answers nothing beside it.
func wantRefused(t *testing.T, c *ctype.Table, what string, id int, want api.Errno) {
	t.Helper()
	wantScalarRefused(t, c, what, id, want)
	if n, err := Size(c, id); n != 0 || err != want {
		t.Errorf("%s: Size(%d) = %d, %d, want 0, %d", what, id, n, err, want)
	}
	if n, err := Align(c, id); n != 0 || err != want {
		t.Errorf("%s: Align(%d) = %d, %d, want 0, %d", what, id, n, err, want)
	}
	if l, err := Gaps(c, id); len(l) != 0 || err != want {
		t.Errorf("%s: Gaps(%d) = %v, %d, want none, %d", what, id, l, err, want)
	}
	for _, hops := range [][]api.Hop{nil, {}, {{Index: 0}}, {{Name: "a"}}, {{Index: -1}}, {{Name: "a"}, {Index: 9}}} {
		if p, err := Walk(c, id, hops); p != (api.Place{}) || err != want {
			t.Errorf("%s: Walk(%d, %v) = %v, %d, want a zero place, %d", what, id, hops, p, err, want)
		}
	}
}

// wantScalarRefused asks that the calls that want a struct or a union refuse a type.
func wantScalarRefused(t *testing.T, c *ctype.Table, what string, id int, want api.Errno) {
	t.Helper()
	if l, err := Places(c, id); len(l) != 0 || err != want {
		t.Errorf("%s: Places(%d) = %v, %d, want none, %d", what, id, l, err, want)
	}
	for _, name := range []string{"", "a", "#1"} {
		if p, ok, err := Find(c, id, name); p != (api.Place{}) || ok || err != want {
			t.Errorf("%s: Find(%d, %q) = %v, %v, %d, want a zero place, false, %d", what, id, name, p, ok, err, want)
		}
	}
}

// dice grows tables of types.
type dice struct {
	*rand.Rand
	kit
}

// member is the number of a member's or an element's type: of those made so far, mostly a late one.
func (d dice) member() int {
	for {
		id := d.Intn(d.Len())
		if d.Intn(2) == 0 {
			id = max(0, d.Len()-1-d.Intn(5))
		}
		if d.Whole(id) {
			return id
		}
	}
}

// bits is a bit-field's type and how many bits it has, mostly with some edge.
func (d dice) bits() (id, n int) {
	id = idBool + d.Intn(idULong-idBool+1)
	most := map[int]int{idBool: 1, idChar: 8, idSChar: 8, idUChar: 8, idShort: 16, idUShort: 16}[id]
	if most == 0 {
		most = 32
	}
	switch d.Intn(5) {
	case 0:
		return id, 0
	case 1:
		return id, most
	}
	return id, 1 + d.Intn(most)
}

// members are members of a struct or a union.
func (d dice) members() []api.Member {
	l := make([]api.Member, 1+d.Intn(7))
	fields := d.Intn(4)
	for i := range l {
		name := "m" + strconv.Itoa(i)
		if d.Intn(4) >= fields {
			l[i] = plain(name, d.member())
			continue
		}
		id, n := d.bits()
		if n == 0 || d.Intn(4) == 0 {
			name = ""
		}
		l[i] = field(name, id, n)
	}
	return l
}

// grow makes one more type.
func (d dice) grow() {
	switch d.Intn(12) {
	case 0:
		d.took(d.Enum("E"))
	case 1:
		d.took(d.Ptr(d.Intn(d.Len())))
	case 2:
		d.took(d.Struct("Open"))
	case 3:
		d.arrayOf(d.member(), []int{-1, 1, 7, 100, 4096, 16384}[d.Intn(6)])
	case 4, 5:
		d.arrayOf(d.member(), 1+d.Intn(4))
	case 6, 7:
		d.unionOf(d.members()...)
	default:
		d.structOf(d.members()...)
	}
}

// grown is a table with some types more than the basic ones.
func grown(t testing.TB, seed int64) *ctype.Table {
	d := dice{rand.New(rand.NewSource(seed)), newKit(t)}
	for range 14 {
		d.grow()
	}
	return d.Table
}

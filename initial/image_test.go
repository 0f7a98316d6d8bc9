package initial

import (
	"fmt"
	"math"
	"slices"
	"strings"
	"testing"

	"mortise/api"
	"mortise/ctype"
)

// number, address and text are constants.
func number(v uint32) api.Const                { return api.Const{V: v} }
func address(global int, add uint32) api.Const { return api.Const{Kind: 1, V: add, Global: global} }
func text(s string) api.Const                  { return api.Const{Kind: 2, Text: s} }

// set is a leaf and its value.
type set struct {
	leaf  api.Leaf
	value api.Const
}

// scalar and bitField are leaves with numbers.
func scalar(off, id int, v uint32) set { return set{api.Leaf{Off: off, Type: id}, number(v)} }
func bitField(off, bit, bits, id int, v uint32) set {
	return set{api.Leaf{Off: off, Bit: bit, Bits: bits, Type: id}, number(v)}
}

// link is a pointer's leaf with an address.
func link(off, id, global int, add uint32) set {
	return set{api.Leaf{Off: off, Type: id}, address(global, add)}
}

// shown writes data: the bytes, and of each relocation its place, the global and what is added.
func shown(d api.Data, err api.Errno) string {
	if err != api.OK {
		if len(d.Bytes) != 0 || len(d.Relocs) != 0 {
			return fmt.Sprint("error ", err, ", but beside it ", d)
		}
		return fmt.Sprint("error ", err)
	}
	s := fmt.Sprintf("% x", d.Bytes)
	for _, r := range d.Relocs {
		s += fmt.Sprint(" | ", r.Off, " ", r.Global, "+", r.Add)
	}
	return s
}

// wantImage asks for an object's bytes, and that what is handed in stays as it was.
func wantImage(t *testing.T, c *ctype.Table, id int, want string, sets ...set) {
	t.Helper()
	var leaves []api.Leaf
	var values []api.Const
	for _, s := range sets {
		leaves, values = append(leaves, s.leaf), append(values, s.value)
	}
	rows, before := c.Rows(), fmt.Sprint(leaves, values)
	if got := shown(Image(c, id, leaves, values)); got != want {
		t.Errorf("Image(%d, %v) = %s, want %s", id, sets, got, want)
	}
	if !sameRows(c.Rows(), rows) || fmt.Sprint(leaves, values) != before {
		t.Errorf("Image(%d, %v) changed the table, the leaves or the values", id, sets)
	}
}

func TestP9_4Examples(t *testing.T) {
	c, id, x := read(t, "int a[2] = {[0] = 1, [0] = 2}")
	l, whole, err := Flatten(c, id, x)
	if err != api.OK {
		t.Fatalf("Flatten: error %d", err)
	}
	if got := shown(Image(c, whole, l, []api.Const{number(1), number(2)})); got != "02 00 00 00 00 00 00 00" {
		t.Errorf("Image = %s", got)
	}
	wantImage(t, c, idInt, "02 00 00 00", scalar(0, idInt, 1), scalar(0, idInt, 2))
	wantImage(t, c, idInt, "00 00 00 00")
}

// TestP9_4Numbers: a number is converted to its leaf's kind.
func TestP9_4Numbers(t *testing.T) {
	c, pointer, _ := read(t, "enum E {A} e; int *p")
	enum := firstFree
	const v = 0x89abcdef
	for _, x := range []struct {
		id   int
		v    uint32
		want string
	}{
		{idBool, v, "01"}, {idBool, 0, "00"}, {idBool, 256, "01"}, {idBool, 2, "01"}, {idBool, 1 << 31, "01"},
		{idChar, v, "ef"}, {idSChar, v, "ef"}, {idUChar, v, "ef"}, {idChar, 256, "00"},
		{idShort, v, "ef cd"}, {idUShort, v, "ef cd"}, {idShort, 0xffff8000, "00 80"},
		{idInt, v, "ef cd ab 89"}, {idUInt, v, "ef cd ab 89"}, {idLong, v, "ef cd ab 89"}, {idULong, v, "ef cd ab 89"},
		{enum, v, "ef cd ab 89"}, {pointer, v, "ef cd ab 89"}, {pointer, 0, "00 00 00 00"},
	} {
		wantImage(t, c, x.id, x.want, scalar(0, x.id, x.v))
		other := set{api.Leaf{Type: x.id, Way: []int{3, -1}}, api.Const{V: x.v, Global: -7, Text: "long text"}}
		wantImage(t, c, x.id, x.want, other)
	}
}

// TestP9_4Places: leaves lie where their Off says, aligned or not, up to the object's last byte.
func TestP9_4Places(t *testing.T) {
	c, id, _ := read(t, "char a[7]")
	wantImage(t, c, id, "01 00 00 00 00 00 00", scalar(0, idChar, 1))
	wantImage(t, c, id, "00 00 00 00 00 00 01", scalar(6, idChar, 1))
	wantImage(t, c, id, "00 04 03 02 01 00 00", scalar(1, idInt, 0x01020304))
	wantImage(t, c, id, "00 00 00 04 03 02 01", scalar(3, idInt, 0x01020304))
	wantImage(t, c, id, "00 00 00 00 00 02 01", scalar(5, idUShort, 0x0102))
	for _, s := range []set{scalar(7, idChar, 1), scalar(6, idShort, 1), scalar(4, idInt, 1), scalar(-1, idChar, 1), scalar(-4, idInt, 1)} {
		wantImage(t, c, id, "error 90", s)
		wantImage(t, c, id, "error 90", scalar(0, idChar, 1), s)
		wantImage(t, c, id, "error 90", s, scalar(0, idChar, 1))
	}
	for _, off := range []int{math.MinInt, math.MinInt + 3, -1 << 32, 1 << 31, 1 << 32, 1 << 60, 1 << 61, 1<<61 + 1, 1 << 62, math.MaxInt - 3, math.MaxInt - 1, math.MaxInt} {
		for _, k := range []int{idBool, idChar, idShort, idInt} {
			wantImage(t, c, id, "error 90", scalar(off, k, 1))
			wantImage(t, c, id, "error 90", bitField(off, 0, 1, k, 1))
			wantImage(t, c, id, "error 90", bitField(off, 7, 1, k, 1))
		}
	}
}

// TestP9_4Fields: a bit-field's bits go into the unit at Off, the lowest of each byte first; all other bits stay.
func TestP9_4Fields(t *testing.T) {
	c, id, _ := read(t, "enum E {A} e; char a[6]")
	enum := firstFree
	wantImage(t, c, id, "c0 03 00 00 00 00", bitField(0, 6, 4, idInt, 0xf))
	wantImage(t, c, id, "00 00 c0 03 00 00", bitField(2, 6, 4, idUInt, 0xff))
	wantImage(t, c, id, "00 00 00 00 00 80", bitField(2, 31, 1, enum, 1))
	wantImage(t, c, id, "00 00 ff ff ff ff", bitField(2, 0, 32, idLong, 0xffffffff))
	wantImage(t, c, id, "f8 00 00 00 00 00", bitField(0, 3, 5, idChar, 0xffffffff))
	wantImage(t, c, id, "00 e0 01 00 00 00", bitField(1, 5, 4, idShort, 0xf))
	wantImage(t, c, id, "0a 00 00 00 00 00", bitField(0, 1, 3, idInt, 0xffffff05))
	wantImage(t, c, id, "fe 00 00 00 00 00", scalar(0, idUChar, 0xff), bitField(0, 0, 1, idInt, 2))
	wantImage(t, c, id, "01 00 00 00 00 00", bitField(0, 0, 1, idBool, 2))
	wantImage(t, c, id, "80 00 00 00 00 00", bitField(0, 7, 1, idBool, 256))
	wantImage(t, c, id, "df 00 00 00 00 00", scalar(0, idUChar, 0xff), bitField(0, 5, 1, idBool, 0))
	wantImage(t, c, id, "35 00 00 00 00 00", bitField(0, 0, 3, idInt, 5), bitField(0, 3, 4, idInt, 6))
	wantImage(t, c, id, "35 00 00 00 00 00", bitField(0, 3, 4, idInt, 6), bitField(0, 0, 3, idInt, 5))
	wantImage(t, c, id, "ff 3f f0 ff 00 00", scalar(0, idUInt, 0xffffffff), bitField(0, 14, 6, idUInt, 0))
}

// TestP9_4UnitsEnd: the object may end within a bit-field's unit, but not within its bits.
func TestP9_4UnitsEnd(t *testing.T) {
	c, id, _ := read(t, "char a[2]")
	wantImage(t, c, id, "00 a5", bitField(1, 0, 8, idInt, 0xa5))
	wantImage(t, c, id, "00 a0", bitField(1, 4, 4, idInt, 0xa))
	wantImage(t, c, id, "00 a5", bitField(0, 8, 8, idInt, 0xa5))
	wantImage(t, c, id, "00 a5", bitField(0, 8, 8, idUShort, 0xa5))
	wantImage(t, c, id, "34 12", bitField(0, 0, 16, idLong, 0x1234))
	wantImage(t, c, id, "00 80", bitField(1, 7, 1, idShort, 1))
	for _, s := range []set{
		bitField(1, 0, 9, idInt, 0), bitField(1, 4, 5, idInt, 0), bitField(0, 8, 9, idInt, 0), bitField(0, 16, 1, idInt, 0), bitField(0, 31, 1, idInt, 0), bitField(0, 0, 17, idInt, 0), bitField(0, 0, 32, idInt, 0),
		bitField(1, 8, 1, idShort, 0), bitField(2, 0, 1, idInt, 0), bitField(2, 0, 1, idChar, 0), bitField(2, 0, 1, idBool, 0), bitField(-1, 8, 8, idInt, 0), bitField(-1, 0, 1, idChar, 0), bitField(-4, 0, 32, idInt, 0),
	} {
		wantImage(t, c, id, "error 90", s)
	}
}

// TestP9_4FieldBits: Bits and Bit against the unit of each kind; other types have no bits at all.
func TestP9_4FieldBits(t *testing.T) {
	c, record, _ := read(t, "enum E {A} e; int *p; char room[8]; int a[2]; struct S {int a;} s")
	enum, pointer, room, ints := firstFree, firstFree+1, firstFree+2, firstFree+3
	units := map[int]int{idBool: 8, idChar: 8, idSChar: 8, idUChar: 8, idShort: 16, idUShort: 16, idInt: 32, idUInt: 32, idLong: 32, idULong: 32, enum: 32, pointer: 0, room: 0, ints: 0, record: 0, idVoid: 0}
	strange := []int{math.MinInt, math.MinInt + 1, -1 << 32, -33, -32, -8, -2, -1, 0, 1, 2, 7, 8, 9, 15, 16, 17, 31, 32, 33, 40, 64, 256, 1 << 31, 1 << 32, 1<<32 + 1, 1 << 62, math.MaxInt - 1, math.MaxInt}
	for id, unit := range units {
		most := unit
		if id == idBool {
			most = 1
		}
		for _, bit := range strange {
			for _, bits := range strange {
				want := "error 90"
				if bits >= 1 && bits <= most && bit >= 0 && bit <= unit-bits || bit == 0 && bits == 0 && (unit > 0 || id == pointer) {
					want = strings.TrimSpace(strings.Repeat("00 ", 8))
				}
				wantImage(t, c, room, want, bitField(0, bit, bits, id, 0))
			}
		}
	}
}

// TestP9_4Texts: a text and noughts up to its array's size.
func TestP9_4Texts(t *testing.T) {
	c, id, _ := read(t, "signed char s[2]; unsigned char u[4]; char open[]; int ints[2]; char one[1]; char rows[2][2]; char a[6]")
	signed, unsigned, open, ints, one, rows := firstFree, firstFree+1, firstFree+2, firstFree+3, firstFree+4, firstFree+6
	put := func(off, id int, s string) set { return set{api.Leaf{Off: off, Type: id}, text(s)} }
	wantImage(t, c, id, "61 62 00 00 00 00", put(0, id, "ab"))
	wantImage(t, c, id, "61 62 63 64 65 66", put(0, id, "abcdef"))
	wantImage(t, c, id, "61 62 63 64 65 00", put(0, id, "abcde"))
	wantImage(t, c, id, "00 00 00 00 00 00", put(0, id, ""))
	wantImage(t, c, id, "61 00 ff 00 00 00", put(0, id, "a\x00\xff"))
	wantImage(t, c, id, "error 90", put(0, id, "abcdefg"))
	wantImage(t, c, id, "error 90", put(1, id, "a"))
	wantImage(t, c, id, "error 90", put(-1, id, "a"))
	wantImage(t, c, id, "00 00 00 00 61 62", put(4, signed, "ab"))
	wantImage(t, c, id, "00 00 61 62 00 00", put(2, unsigned, "ab"))
	wantImage(t, c, id, "error 90", put(3, unsigned, "ab"))
	wantImage(t, c, id, "error 90", put(5, signed, ""))
	wantImage(t, c, id, "error 90", put(4, signed, "abc"))
	wantImage(t, c, id, "00 00 00 00 00 61", put(5, one, "a"))
	wantImage(t, c, id, "ff 61 00 00 00 ff", scalar(0, idInt, 0xffffffff), scalar(2, idInt, 0xffffffff), put(1, unsigned, "a"))
	for _, wrong := range []int{open, ints, rows, idChar, idInt} {
		for _, s := range []string{"", "a", "ab"} {
			wantImage(t, c, id, "error 90", put(0, wrong, s))
		}
	}
	long, _ := c.Array(idChar, api.MaxSize)
	d, err := Image(c, long, []api.Leaf{{Type: long}}, []api.Const{text(strings.Repeat("x", api.MaxSize))})
	if string(d.Bytes) != strings.Repeat("x", api.MaxSize) || err != api.OK {
		t.Errorf("MaxSize bytes: %d, error %d", len(d.Bytes), err)
	}
	wantImage(t, c, long, "error 90", put(0, long, strings.Repeat("x", api.MaxSize+1)))
}

// TestP9_4Addresses: an address is noughts and a relocation; they rise by Off.
func TestP9_4Addresses(t *testing.T) {
	c, id, _ := read(t, "int *p; char **q; void *a[3]")
	p, q := firstFree, firstFree+2
	wantImage(t, c, p, "00 00 00 00 | 0 0+0", link(0, p, 0, 0))
	wantImage(t, c, p, "00 00 00 00 | 0 5+4", link(0, p, 5, 4))
	wantImage(t, c, p, "00 00 00 00 | 0 255+16384", link(0, p, 255, 16384))
	wantImage(t, c, p, "00 00 00 00 | 0 1000000+4294967295", link(0, p, 1000000, math.MaxUint32))
	wantImage(t, c, p, "00 00 00 00 | 0 9223372036854775807+2147483648", link(0, p, math.MaxInt, 1<<31))
	wantImage(t, c, id, "00 00 00 00 00 00 00 00 00 00 00 00 | 0 3+4 | 4 2+5 | 8 1+6", link(8, p, 1, 6), link(4, q, 2, 5), link(0, p, 3, 4))
	wantImage(t, c, id, "00 00 00 00 00 00 00 00 00 00 00 00 | 0 3+4 | 4 2+5 | 8 1+6", link(4, p, 2, 5), link(0, q, 3, 4), link(8, p, 1, 6))
	wantImage(t, c, id, "ff 00 00 00 00 ff ff ff 07 00 00 00 | 1 4+0", scalar(0, idInt, 0xffffffff), scalar(4, idInt, 0xffffffff), scalar(8, p, 7), link(1, p, 4, 0))
	for _, s := range []set{link(0, p, -1, 0), link(0, p, math.MinInt, 0), link(9, p, 0, 0), link(-1, p, 0, 0), link(0, idInt, 0, 0), link(0, idULong, 0, 0), link(0, id, 0, 0), link(0, idVoid, 0, 0)} {
		wantImage(t, c, id, "error 90", s)
	}
	s := link(0, p, 0, 0)
	s.value.Text = "not looked at"
	wantImage(t, c, p, "00 00 00 00 | 0 0+0", s)
	s.leaf.Bits = 32
	wantImage(t, c, p, "error 90", s)
}

// TestP9_4LostAddresses: a relocation goes if a later leaf has one of its bytes, and stays if none has, or an earlier one.
func TestP9_4LostAddresses(t *testing.T) {
	c, id, _ := read(t, "int *p; char two[2]; char a[12]")
	p, two := firstFree, firstFree+1
	const blank = "00 00 00 00 00 00 00 00 00 00 00 00"
	at := link(4, p, 9, 1)
	for off := range 12 {
		b := strings.Fields(blank)
		b[off] = "11"
		want := strings.Join(b, " ")
		if off < 4 || off > 7 {
			want += " | 4 9+1"
		}
		wantImage(t, c, id, want, at, scalar(off, idChar, 0x11))
		wantImage(t, c, id, want, at, bitField(off, 0, 5, idChar, 0x11))
		if off > 0 {
			wantImage(t, c, id, want, at, bitField(off-1, 8, 5, idInt, 0x11))
		}
		if off <= 9 {
			wantImage(t, c, id, want, at, bitField(off, 4, 4, idInt, 1), bitField(off, 0, 5, idInt, 0x11))
		}
	}
	wantImage(t, c, id, blank+" | 4 9+1", scalar(5, idChar, 1), at)
	wantImage(t, c, id, blank+" | 4 9+1", scalar(4, idInt, 0xffffffff), at)
	wantImage(t, c, id, blank+" | 1 8+2", at, link(1, p, 8, 2))
	wantImage(t, c, id, blank+" | 7 8+2", at, link(7, p, 8, 2))
	wantImage(t, c, id, blank+" | 4 8+2", at, link(4, p, 8, 2))
	wantImage(t, c, id, blank+" | 0 8+2 | 4 9+1", at, link(0, p, 8, 2))
	wantImage(t, c, id, blank+" | 4 9+1 | 8 8+2", at, link(8, p, 8, 2))
	wantImage(t, c, id, blank+" | 2 7+0", at, link(0, p, 8, 2), link(8, p, 8, 2), link(2, p, 7, 0), link(5, p, 1, 1), link(2, p, 7, 0))
	wantImage(t, c, id, blank, at, link(0, p, 8, 2), link(8, p, 8, 2), set{api.Leaf{Type: id}, text("")})
	wantImage(t, c, id, blank, at, scalar(6, idInt, 0))
	wantImage(t, c, id, blank, at, set{api.Leaf{Off: 3, Type: two}, text("")})
	wantImage(t, c, id, blank, at, set{api.Leaf{Off: 7, Type: two}, text("")})
	wantImage(t, c, id, blank+" | 4 9+1", at, set{api.Leaf{Off: 2, Type: two}, text("")})
	wantImage(t, c, id, blank+" | 4 9+1", at, set{api.Leaf{Off: 8, Type: two}, text("")})
	wantImage(t, c, id, blank+" | 4 9+1", at, bitField(0, 0, 32, idInt, 0), bitField(8, 0, 32, idInt, 0))
	wantImage(t, c, id, blank+" | 4 9+1", at, bitField(2, 0, 16, idInt, 0))
	wantImage(t, c, id, blank, at, bitField(2, 0, 17, idInt, 0))
	wantImage(t, c, id, blank, at, bitField(2, 16, 1, idInt, 0))
	wantImage(t, c, id, blank+" | 4 9+1", at, bitField(5, 24, 8, idInt, 0))
	wantImage(t, c, id, blank, at, bitField(5, 23, 8, idInt, 0))
}

// TestP9_4Wrong: the order of refusals, and leaves and values of other kinds.
func TestP9_4Wrong(t *testing.T) {
	zero := new(ctype.Table)
	one, two := make([]api.Leaf, 1), make([]api.Const, 2)
	for _, c := range []*ctype.Table{nil, zero} {
		for _, id := range []int{-1, 0, idInt} {
			if got := shown(Image(c, id, nil, nil)); got != "error 1" {
				t.Errorf("no table: %s", got)
			}
			if got := shown(Image(c, id, one, two)); got != "error 1" {
				t.Errorf("no table: %s", got)
			}
		}
	}
	c, ids := kinds(t)
	open, _ := c.Struct("Open")
	long, _ := c.Array(idChar, api.MaxSize)
	large, _ := c.Array(long, 2)
	for _, x := range []struct {
		id   int
		want string
	}{
		{-1, "error 30"}, {math.MinInt, "error 30"}, {c.Len(), "error 30"}, {math.MaxInt, "error 30"}, {1<<32 + idInt, "error 30"},
		{idVoid, "error 50"}, {open, "error 50"}, {ids[len(ids)-1], "error 50"}, {ids[len(ids)-2], "error 50"}, {large, "error 51"},
		{idInt, "error 2"}, {long, "error 2"}, {ids[4], "error 2"},
	} {
		for _, leaves := range [][]api.Leaf{nil, one, {{Type: -1}, {}, {}}} {
			if got := shown(Image(c, x.id, leaves, two)); got != x.want {
				t.Errorf("Image(%d, ..) = %s, want %s", x.id, got, x.want)
			}
		}
		if got := shown(Image(c, x.id, one, nil)); got != x.want {
			t.Errorf("Image(%d, ..) = %s, want %s", x.id, got, x.want)
		}
	}
}

// TestP9_4WrongKinds: what of each kind of constant no leaf of a type takes.
func TestP9_4WrongKinds(t *testing.T) {
	c, room, _ := read(t, "enum E {A} e; int *p; char x[2]; int a[2]; struct S {int a;} s; union U {int a;} u; char n[]; char room[4]")
	enum, pointer, chars, ints, s, u, open := firstFree, firstFree+1, firstFree+2, firstFree+3, firstFree+4, firstFree+5, firstFree+6
	hollow, _ := c.Struct("Open")
	takes := map[int]string{
		idVoid: "", idBool: "n", idChar: "n", idSChar: "n", idUChar: "n", idShort: "n", idUShort: "n", idInt: "n", idUInt: "n", idLong: "n", idULong: "n",
		enum: "n", pointer: "na", chars: "t", ints: "", s: "", u: "", open: "", room: "t", hollow: "", -1: "", c.Len(): "", math.MaxInt: "", math.MinInt: "", 1<<32 + idInt: "",
	}
	values := []struct {
		v    api.Const
		kind string
	}{{number(0), "n"}, {address(0, 0), "a"}, {text(""), "t"}, {api.Const{Kind: -1}, "-"}, {api.Const{Kind: 3}, "-"}, {api.Const{Kind: 1 << 32}, "-"}, {api.Const{Kind: math.MaxInt}, "-"}, {api.Const{Kind: math.MinInt}, "-"}}
	for id, kinds := range takes {
		for _, v := range values {
			want := "error 90"
			if strings.Contains(kinds, v.kind) {
				want = "00 00 00 00"
			}
			if strings.Contains(kinds, "a") && v.kind == "a" {
				want += " | 0 0+0"
			}
			wantImage(t, c, room, want, set{api.Leaf{Type: id}, v.v})
			bits := "error 90"
			if kinds == "n" && v.kind == "n" {
				bits = "00 00 00 00"
			}
			wantImage(t, c, room, bits, set{api.Leaf{Type: id, Bits: 1}, v.v})
		}
	}
}

// TestP9_4Memory: bytes and relocations are new memory.
func TestP9_4Memory(t *testing.T) {
	c, id, _ := read(t, "int *p[2]")
	leaves := []api.Leaf{{Type: firstFree, Way: []int{1}}, {Off: 4, Type: firstFree}}
	values := []api.Const{address(1, 2), number(3)}
	a, _ := Image(c, id, leaves, values)
	b, _ := Image(c, id, leaves, values)
	clear(a.Bytes)
	clear(a.Relocs)
	if got := shown(b, api.OK); got != "00 00 00 00 03 00 00 00 | 0 1+2" {
		t.Errorf("Image = %s", got)
	}
	if !slices.Equal(leaves[0].Way, []int{1}) || leaves[0].Type != firstFree {
		t.Errorf("leaves = %v", leaves)
	}
}

package initial

import (
	"fmt"
	"math"
	"testing"

	"mortise/api"
	"mortise/ctype"
	"mortise/layout"
)

// spot is a part's place and type.
type spot struct{ off, bit, bits, id int }

// parts are all parts of an object, and the object itself.
func parts(c *ctype.Table, id int) map[spot]int {
	l := map[spot]int{}
	collect(c, api.Place{Type: id}, l)
	return l
}

// collect adds what lies at a place to the parts, and what is within it.
func collect(c *ctype.Table, p api.Place, l map[spot]int) {
	s := spot{p.Off, p.Bit, p.Bits, p.Type}
	if l[s] > 0 {
		return
	}
	l[s] = 1
	row, _ := c.Row(p.Type)
	if row.Kind == api.TArray {
		size, _ := layout.Size(c, row.Elem)
		for i := range row.Len {
			collect(c, api.Place{Type: row.Elem, Off: p.Off + i*size}, l)
		}
		return
	}
	places, _ := layout.Places(c, p.Type)
	for _, m := range places {
		if row.Members[m.Member].Name != "" {
			m.Off += p.Off
			collect(c, m, l)
		}
	}
}

// TestP9_5Parts: each leaf is a part of the object by layer 5, and lies within it; its way leads to an expression.
func TestP9_5Parts(t *testing.T) {
	count := 0
	eachGrown(t, 300, func(d dice, id int, x api.Tree) {
		l, whole, err := Flatten(d.Table, id, x)
		if err != api.OK || len(l) == 0 {
			return
		}
		all := parts(d.Table, whole)
		size, _ := layout.Size(d.Table, whole)
		for _, leaf := range l {
			count++
			n, _ := layout.Size(d.Table, leaf.Type)
			if all[spot{leaf.Off, leaf.Bit, leaf.Bits, leaf.Type}] == 0 || leaf.Off < 0 || leaf.Off+n > size {
				t.Errorf("%v: leaf %v is no part of type %d", x, leaf, whole)
			}
			by := x
			for _, i := range leaf.Way {
				by = by.Sub[i]
			}
			if by.Kind < api.TrStr {
				t.Errorf("%v: the way of leaf %v leads to %v", x, leaf, by)
			}
		}
	})
	if count < 10000 {
		t.Errorf("only %d leaves", count)
	}
}

// bitsOf are the bits of the object that a leaf gives a value to: the first one, and the values; or false, if P9.4 refuses it.
func bitsOf(c *ctype.Table, size int, l api.Leaf, v api.Const) (int, []byte, bool) {
	row, ok := c.Row(l.Type)
	if !ok || l.Off < 0 || l.Off > size {
		return 0, nil, false
	}
	width := map[api.TypeKind]int{api.TBool: 8, api.TChar: 8, api.TSChar: 8, api.TUChar: 8, api.TShort: 16, api.TUShort: 16, api.TInt: 32, api.TUInt: 32, api.TLong: 32, api.TULong: 32, api.TEnum: 32, api.TPtr: 32}[row.Kind]
	isText := row.Kind == api.TArray && row.Elem >= idChar && row.Elem <= idUChar
	isPointer := row.Kind == api.TPtr
	first, n := 8*l.Off, width
	var from []byte
	switch {
	case v.Kind == 0 && width > 0:
		x := v.V
		if row.Kind == api.TBool {
			x = min(x, 1)
		}
		from = []byte{byte(x), byte(x >> 8), byte(x >> 16), byte(x >> 24)}
	case v.Kind == 1 && isPointer && v.Global >= 0:
		from = make([]byte, 4)
	case v.Kind == 2 && isText && len(v.Text) <= row.Len:
		from, n = append([]byte(v.Text), make([]byte, row.Len-len(v.Text))...), 8*row.Len
	default:
		return 0, nil, false
	}
	if l.Bit != 0 || l.Bits != 0 {
		most := width
		if row.Kind == api.TBool {
			most = 1
		}
		if isText || isPointer || l.Bits < 1 || l.Bits > most || l.Bit < 0 || l.Bit > width-l.Bits {
			return 0, nil, false
		}
		first, n = first+l.Bit, l.Bits
	}
	if first+n > 8*size {
		return 0, nil, false
	}
	bits := make([]byte, n)
	for i := range bits {
		bits[i] = from[i/8] >> (i % 8) & 1
	}
	return first, bits, true
}

// drawn tells P9.4 once more, bit by bit, for an object of a type that has a size.
func drawn(c *ctype.Table, id int, leaves []api.Leaf, values []api.Const) (api.Data, api.Errno) {
	size, _ := layout.Size(c, id)
	d := api.Data{Bytes: make([]byte, size)}
	owner := make([]int, size) // the last leaf, from 1 on, that has a bit of the byte
	object := make([]byte, 8*size)
	for i, l := range leaves {
		first, bits, ok := bitsOf(c, size, l, values[i])
		if !ok {
			return api.Data{}, api.ErrInit
		}
		copy(object[first:], bits)
		for b := first / 8; b <= (first+len(bits)-1)/8; b++ {
			owner[b] = i + 1
		}
	}
	for i, bit := range object {
		d.Bytes[i/8] |= bit << (i % 8)
	}
	for off := 0; off+4 <= size; off++ {
		o := owner[off]
		if o == 0 || values[o-1].Kind != 1 || leaves[o-1].Off != off || owner[off+1] != o || owner[off+2] != o || owner[off+3] != o {
			continue
		}
		d.Relocs = append(d.Relocs, api.Reloc{Off: off, Global: values[o-1].Global, Add: int(values[o-1].V)})
	}
	return d, api.OK
}

// value is a constant, mostly one that a leaf takes.
func (d dice) value(l api.Leaf) api.Const {
	row, _ := d.Row(l.Type)
	v := api.Const{V: d.Uint32() >> (8 * d.Intn(4)), Global: d.Intn(5)}
	switch {
	case d.Intn(60) == 0:
		v.Kind, v.Global = d.Intn(5)-1, d.Intn(4)-2
	case row.Kind == api.TPtr && d.Intn(3) > 0:
		v.Kind = 1
	case d.isText(row):
		v.Kind, v.Text = 2, "abcdefgh"[:d.Intn(max(row.Len, 0)%8+1)]
	}
	return v
}

// TestP9_5LaterWins: each bit of an object is that of the last leaf that has it, and 0, if none has; so is padding.
func TestP9_5LaterWins(t *testing.T) {
	count, lost, kept, padding := 0, 0, 0, 0
	eachGrown(t, 400, func(d dice, id int, x api.Tree) {
		met, whole, err := Flatten(d.Table, id, x)
		var leaves []api.Leaf
		var values []api.Const
		for _, l := range met {
			if row, _ := d.Row(l.Type); row.Kind < api.TStruct {
				leaves, values = append(leaves, l), append(values, d.value(l))
			}
		}
		if err != api.OK {
			return
		}
		want, wantErr := drawn(d.Table, whole, leaves, values)
		got, err := Image(d.Table, whole, leaves, values)
		if err != wantErr || fmt.Sprint(got) != fmt.Sprint(want) {
			t.Errorf("%v, %v: got %v, %d, want %v, %d", leaves, values, got, err, want, wantErr)
		}
		if err != api.OK {
			return
		}
		gaps, _ := layout.Gaps(d.Table, whole)
		for _, g := range gaps {
			for i := g.From; i < g.From+g.Bits; i++ {
				padding++
				if got.Bytes[i/8]>>(i%8)&1 != 0 {
					t.Errorf("%v, %v: bit %d of the padding is set", leaves, values, i)
				}
			}
		}
		count += len(leaves)
		kept += len(got.Relocs)
		lost -= len(got.Relocs)
		for _, v := range values {
			lost += min(v.Kind%2, 1)
		}
	})
	if count < 10000 || lost < 20 || kept < 200 || padding < 10000 {
		t.Errorf("only %d leaves, %d relocations that went and %d that stayed, %d bits of padding", count, lost, kept, padding)
	}
}

// stray is a leaf that may lie anywhere in an object, and may be wrong.
func (d dice) stray(size int) api.Leaf {
	l := api.Leaf{Off: d.Intn(size+1) - d.Intn(20)/19}
	switch k := d.Intn(8); {
	case k == 0:
		l.Type = d.Intn(d.Len())
	case k < 4:
		l.Type, _ = d.Ptr(idInt)
	default:
		l.Type = idBool + d.Intn(idULong)
	}
	if l.Type <= idULong && d.Intn(2) == 0 {
		l.Bits = 1 + d.Intn(8)
		l.Bit = d.Intn(8)
		if l.Type >= idInt {
			l.Bits, l.Bit = 1+d.Intn(20), d.Intn(14)
		}
	}
	if d.Intn(40) == 0 {
		strange := []int{-1, 1, 7, 8, 16, 31, 32, 33, 1 << 32, math.MaxInt, math.MinInt}
		*[]*int{&l.Off, &l.Bit, &l.Bits, &l.Type}[d.Intn(4)] = strange[d.Intn(len(strange))]
	}
	return l
}

// TestP9_4Any: leaves that lie over one another in any order, right and wrong ones.
func TestP9_4Any(t *testing.T) {
	errors := map[api.Errno]int{}
	relocs := 0
	for seed := range int64(300) {
		d := grown(seed)
		id, _ := d.Array(idUChar, 1+d.Intn(24))
		size, _ := layout.Size(d.Table, id)
		for range 60 {
			var leaves []api.Leaf
			var values []api.Const
			for range d.Intn(6) {
				l := d.stray(size)
				leaves, values = append(leaves, l), append(values, d.value(l))
			}
			want, wantErr := drawn(d.Table, id, leaves, values)
			got, err := Image(d.Table, id, leaves, values)
			if err != wantErr || fmt.Sprint(got) != fmt.Sprint(want) {
				t.Fatalf("seed %d: %v, %v: got %v, %d, want %v, %d", seed, leaves, values, got, err, want, wantErr)
			}
			errors[err]++
			relocs += len(got.Relocs)
		}
	}
	if errors[api.OK] < 3000 || errors[api.ErrInit] < 3000 || relocs < 200 {
		t.Errorf("only %v, %d relocations", errors, relocs)
	}
}

package initial

import (
	"slices"

	"mortise/api"
	"mortise/ctype"
	"mortise/field"
	"mortise/layout"
	"mortise/word"
)

// The kinds of constants.
const (
	constNumber  = 0
	constAddress = 1
	constText    = 2
)

// picture is an object's bytes at first, as far as its leaves have been painted.
type picture struct {
	types  *ctype.Table
	bytes  []byte
	relocs []api.Reloc // no two share a byte; by rising Off
}

// paintAll paints an object leaf by leaf.
func paintAll(t *ctype.Table, id int, leaves []api.Leaf, values []api.Const) (picture, error) {
	size, code := layout.Size(t, id)
	if code != api.OK {
		return picture{}, refuse(code)
	}
	if len(values) != len(leaves) {
		return picture{}, refuse(api.ErrArg)
	}
	p := picture{types: t, bytes: make([]byte, size)}
	for i, l := range leaves {
		if err := p.paint(l, values[i]); err != nil {
			return picture{}, err
		}
	}
	return p, nil
}

// paint paints a leaf over those ahead of it.
func (p *picture) paint(l api.Leaf, v api.Const) error {
	row, ok := p.types.Row(l.Type)
	switch {
	case !ok:
		return refuse(api.ErrInit)
	case l.Bit != 0 || l.Bits != 0:
		return p.paintField(l, row.Kind, v)
	case v.Kind == constNumber && p.types.Scalar(l.Type):
		return p.paintNumber(l.Off, row.Kind, v.V)
	case v.Kind == constAddress && row.Kind == api.TPtr:
		return p.paintAddress(l.Off, v)
	case v.Kind == constText && isChars(p.types, row) && len(v.Text) <= row.Len:
		return p.paintText(l.Off, row.Len, v.Text)
	}
	return refuse(api.ErrInit)
}

// paintField paints a bit-field. Its unit is as wide as the kind, though the object may end within it.
func (p *picture) paintField(l api.Leaf, k api.TypeKind, v api.Const) error {
	at := api.Place{Bit: l.Bit, Bits: l.Bits}
	x, tooWide := field.Value(k, l.Bits, v.V)
	first, n, misplaced := field.Touched(at, k)
	if v.Kind != constNumber || tooWide != api.OK || misplaced != api.OK || !p.holds(l.Off, first+n) {
		return refuse(api.ErrInit)
	}
	unit := make([]byte, word.Width(k))
	copy(unit, p.bytes[l.Off:])
	unit, _ = field.Write(unit, at, k, x)
	copy(p.claim(l.Off+first, n), unit[first:])
	return nil
}

// paintNumber paints a number or a pointer.
func (p *picture) paintNumber(off int, k api.TypeKind, v uint32) error {
	b := word.Bytes(word.Convert(k, v), word.Width(k))
	if !p.holds(off, len(b)) {
		return refuse(api.ErrInit)
	}
	copy(p.claim(off, len(b)), b)
	return nil
}

// paintAddress paints the address of a global, of which the bytes are not known yet.
func (p *picture) paintAddress(off int, v api.Const) error {
	width := word.Width(api.TPtr)
	if v.Global < 0 || !p.holds(off, width) {
		return refuse(api.ErrInit)
	}
	clear(p.claim(off, width))
	p.relocs = slices.Insert(p.relocs, p.ahead(off), api.Reloc{Off: off, Global: v.Global, Add: int(v.V)})
	return nil
}

// paintText paints a text, and noughts behind it.
func (p *picture) paintText(off, size int, text string) error {
	if !p.holds(off, size) {
		return refuse(api.ErrInit)
	}
	b := p.claim(off, size)
	clear(b[copy(b, text):])
	return nil
}

// holds tells whether the object has n bytes from one on. The sum is not made, since it might run over.
func (p *picture) holds(off, n int) bool { return off >= 0 && off <= len(p.bytes)-n }

// claim is n bytes of the object for a leaf: relocations that have one of them are taken out.
func (p *picture) claim(off, n int) []byte {
	first := off - word.Width(api.TPtr) + 1
	p.relocs = slices.Delete(p.relocs, p.ahead(first), p.ahead(off+n))
	return p.bytes[off : off+n]
}

// ahead is how many relocations begin ahead of a byte.
func (p *picture) ahead(off int) int {
	n, _ := slices.BinarySearchFunc(p.relocs, off, func(r api.Reloc, off int) int { return r.Off - off })
	return n
}

package lower

import (
	"mortise/api"
	"mortise/field"
	"mortise/word"
)

// A bit-field is read and written by single bytes, and by those alone that have bits of it: its unit's other bytes need not be set, and the unit need not be aligned.

// loadByte is a byte.
func (b *builder) loadByte(at api.Arg, off int) api.Arg {
	return b.gain(b.temp(), api.Ins{Op: api.TacLoad, A: at, Off: off, Width: 1})
}

// loadField is what a bit-field has. From low on no temporary is held but by the place.
func (b *builder) loadField(low int, p place) api.Arg {
	first, n, _ := field.Touched(p.field, p.is.kind)
	at, off := b.reach(p.address)
	mine := b.held
	v := b.loadByte(at, off+first)
	for i := 1; i < n; i++ {
		next := b.loadByte(at, off+first+i)
		next = b.reckon(mine+1, api.OpShl, next, number(uint32(8*i)))
		v = b.reckon(mine, api.OpOr, v, next)
	}
	return b.cut(low, v, p.field.Bit-8*first, p.field.Bits, 8*n, word.Signed(p.is.kind))
}

// cut is the number that some bits of a value are, above the known ones of which there are noughts.
func (b *builder) cut(low int, v api.Arg, bit, bits, known int, signed bool) api.Arg {
	switch {
	case signed:
		v = b.shifted(low, v, wordBits-bit-bits)
		if bits == wordBits {
			return v
		}
		return b.reckon(low, api.OpShrS, v, number(uint32(wordBits-bits)))
	case bit+bits == known:
		return b.shifted(low, v, -bit)
	}
	return b.narrowed(low, b.shifted(low, v, -bit), bits, false)
}

// shifted is a value moved so many places up, or down with noughts, if that is below 0.
func (b *builder) shifted(low int, v api.Arg, by int) api.Arg {
	switch {
	case by > 0:
		return b.reckon(low, api.OpShl, v, number(uint32(by)))
	case by < 0:
		return b.reckon(low, api.OpShrU, v, number(uint32(-by)))
	}
	return v
}

// fieldValue is what a bit-field has behind a value was put into it. Only of a _Bool that matters to what is put.
func (b *builder) fieldValue(low int, p place, v api.Arg, asked bool) api.Arg {
	switch {
	case p.is.kind == api.TBool:
		return b.reckon(low, api.OpNe, v, number(0))
	case !asked || p.field.Bits == wordBits:
		return v
	}
	return b.narrowed(low, v, p.field.Bits, word.Signed(p.is.kind))
}

// storeField puts the lowest bits of a value into a bit-field.
func (b *builder) storeField(p place, v api.Arg) {
	first, n, _ := field.Touched(p.field, p.is.kind)
	bits, _ := field.Mask(p.field.Bit, p.field.Bits)
	at, off := b.reach(p.address)
	low := b.held
	for i := first; i < first+n; i++ {
		b.held = low
		mine := b.shifted(low, v, p.field.Bit-8*i)
		if own := bits >> (8 * i) & 0xff; own != 0xff {
			mine = b.reckon(low, api.OpAnd, mine, number(own))
			above := b.held
			rest := b.loadByte(at, off+i)
			rest = b.reckon(above, api.OpAnd, rest, number(own^0xff))
			mine = b.reckon(low, api.OpOr, mine, rest)
		}
		b.write(api.Ins{Op: api.TacStore, A: at, Off: off + i, B: mine, Width: 1})
	}
}

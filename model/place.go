package model

import (
	"mortise/api"
	"mortise/field"
	"mortise/word"
)

// place is where something lies, what it is, and, of a bit-field, which bits it has of the unit there (Bits 0: it is none).
type place struct {
	at    api.Val
	is    shape
	field api.Place
}

// How the Num of a TxPart is put together.
const (
	offsetUnit = 2048
	bitUnit    = 64
)

// fieldOf is which bits a place has that is a bit-field.
func fieldOf(x *api.Tree) api.Place {
	if x.Kind != api.TxPart {
		return api.Place{}
	}
	return api.Place{Bit: x.Num % offsetUnit / bitUnit, Bits: x.Num % bitUnit}
}

// place does a node that is a place.
func (m *machine) place(x *api.Tree) place {
	return place{at: m.scalar(x), is: m.shape(x.Type), field: fieldOf(x)}
}

// read is what a place has.
func (m *machine) read(p place) value {
	switch {
	case p.field.Bits != 0:
		return value{scalar: m.readField(p)}
	case p.is.isRecord():
		return value{bytes: m.readBytes(p)}
	}
	return value{scalar: m.readScalar(p)}
}

// put takes a value, gives it to a place, and answers what that has then.
func (m *machine) put(p place, v value) value {
	v = v.taken()
	switch {
	case p.field.Bits != 0:
		return value{scalar: m.putField(p, v.scalar)}
	case p.is.isRecord():
		m.putBytes(p, v.bytes)
	default:
		heed(m.memory.Store(p.at, word.Width(p.is.kind), v.scalar))
	}
	return v
}

// readScalar is what a place has that is a number or a pointer.
func (m *machine) readScalar(p place) api.Val {
	v, stop := m.memory.Load(p.at, word.Width(p.is.kind), word.Signed(p.is.kind))
	heed(stop)
	if p.is.kind == api.TPtr {
		want(points(v))
	} else {
		want(v.Kind == api.ValNum)
	}
	return v
}

// eachTouched goes through the bytes of a bit-field's unit that have bits of it.
func eachTouched(p place, do func(i int, at api.Val)) {
	first, n, err := field.Touched(p.field, p.is.kind)
	want(err == api.OK)
	for i := first; i < first+n; i++ {
		do(i, further(p.at, i))
	}
}

// readByte is a byte, which must be a number, as byte i of a unit.
func (m *machine) readByte(i int, at api.Val) uint32 {
	v, stop := m.memory.Load(at, 1, false)
	heed(stop)
	return numberOf(v) << (8 * i)
}

// readField is the number that a bit-field has.
func (m *machine) readField(p place) api.Val {
	unit := uint32(0)
	eachTouched(p, func(i int, at api.Val) { unit |= m.readByte(i, at) })
	v, known, err := field.Get(unit, ^uint32(0), p.field.Bit, p.field.Bits, word.Signed(p.is.kind))
	want(known && err == api.OK)
	return number(v)
}

// putField puts a number into a bit-field, and answers what that makes of it. Of a byte that has other bits, too, these must be known.
func (m *machine) putField(p place, v api.Val) api.Val {
	x, err := field.Value(p.is.kind, p.field.Bits, numberOf(v))
	want(err == api.OK)
	bits, _ := field.Mask(p.field.Bit, p.field.Bits)
	eachTouched(p, func(i int, at api.Val) {
		unit := uint32(0)
		if byte(bits>>(8*i)) != 0xff {
			unit = m.readByte(i, at)
		}
		unit, _, _ = field.Put(unit, 0, p.field.Bit, p.field.Bits, x)
		heed(m.memory.Store(at, 1, number(unit>>(8*i))))
	})
	return number(x)
}

// readBytes are the bytes of a struct or a union, set or not. They are copied into a block of their own, since layer 11 tells the bytes of whole blocks alone, and these may be a small part of a large one.
func (m *machine) readBytes(p place) []api.Cell {
	var bytes []api.Cell
	m.aside(p.is, func(spare api.Val) {
		heed(m.memory.Copy(spare, p.at, p.is.size, p.is.align))
		bytes, _ = m.memory.Cells(spare.Block)
	})
	return bytes
}

// putBytes gives a struct or a union its bytes. They are laid down in a block of their own, since only copies turn bytes into such as are not set.
func (m *machine) putBytes(p place, bytes []api.Cell) {
	m.aside(p.is, func(spare api.Val) {
		for i, c := range bytes {
			m.lay(further(spare, i), c)
		}
		heed(m.memory.Copy(p.at, spare, p.is.size, p.is.align))
	})
}

// lay makes a byte that is not set what c says.
func (m *machine) lay(at api.Val, c api.Cell) {
	switch c.Kind {
	case api.ValNum:
		heed(m.memory.Store(at, 1, number(c.V)))
	case api.ValPtr:
		m.layPart(at, c)
	}
}

// layPart makes a byte a part of a pointer, which is copied from where all of it is stored.
func (m *machine) layPart(at api.Val, c api.Cell) {
	width := word.Width(api.TPtr)
	m.aside(shape{size: width, align: width}, func(spare api.Val) {
		heed(m.memory.Store(spare, width, api.Val{Kind: api.ValPtr, V: c.V, Block: c.Block}))
		heed(m.memory.Copy(at, further(spare, c.Part), 1, 1))
	})
}

// aside does something with a block that lives no longer.
func (m *machine) aside(s shape, do func(spare api.Val)) {
	spare := m.newBlock(s)
	do(spare)
	m.memory.End(spare.Block)
}

package layout

import (
	"bytes"

	"mortise/api"
)

// painter tells which bits of an object something in it has. It paints each type once, as a ruler measures it.
type painter struct {
	*ruler
	pictures [][]byte // by type; none of those that are not painted yet
}

// paint answers an object's bytes, in which each bit is set that something in it has.
func (p *painter) paint(id int) []byte {
	if b := p.pictures[id]; len(b) > 0 {
		return b
	}
	row, _ := p.types.Row(id)
	b := p.painted(row, p.measure(id).size)
	p.pictures[id] = b
	return b
}

// painted paints an object of that row and size.
func (p *painter) painted(row api.TypeRow, size int) []byte {
	switch {
	case row.Kind == api.TArray:
		return bytes.Repeat(p.paint(row.Elem), row.Len)
	case isRecord(row):
		return p.paintRecord(row, size)
	}
	return bytes.Repeat([]byte{0xff}, size)
}

// paintRecord paints what the members of a struct or a union have.
func (p *painter) paintRecord(row api.TypeRow, size int) []byte {
	b := make([]byte, size)
	p.lay(row, func(at api.Place) {
		switch {
		case row.Members[at.Member].Name == "": // such a bit-field is padding
		case at.Bits > 0:
			setBits(b, inBits(at.Off)+bits(at.Bit), bits(at.Bits))
		default:
			for i, x := range p.paint(at.Type) {
				b[at.Off+i] |= x
			}
		}
	})
	return b
}

// setBits sets n bits from one on.
func setBits(b []byte, from, n bits) {
	for i := from; i < from+n; i++ {
		b[i/8] |= 1 << (i % 8)
	}
}

// gaps are the runs of bits that are not set.
func gaps(b []byte) []api.Gap {
	var l []api.Gap
	free := 0
	for i := range 8 * len(b) {
		if b[i/8]>>(i%8)&1 == 1 {
			free = 0
			continue
		}
		if free == 0 {
			l = append(l, api.Gap{From: i})
		}
		free++
		l[len(l)-1].Bits = free
	}
	return l
}

package field

import (
	"math"

	"mortise/api"
	"mortise/word"
)

// Read reads a field of an object's bytes (P8.3).
func Read(b []byte, p api.Place, k api.TypeKind) (uint32, api.Errno) {
	return onUnit(b, p, k, func(unit uint32) uint32 {
		return take(unit, p.Bit, p.Bits, word.Signed(k))
	})
}

// Write writes it (P8.3).
func Write(b []byte, p api.Place, k api.TypeKind, x uint32) ([]byte, api.Errno) {
	if k == api.TBool { // any number but 0 is true, also one whose lowest bit is 0
		x = word.Convert(k, x)
	}
	unit, err := onUnit(b, p, k, func(unit uint32) uint32 {
		return lay(unit, p.Bit, p.Bits, x)
	})
	if err != api.OK {
		return nil, err
	}
	written := make([]byte, len(b))
	copy(written, b)
	for i := range word.Width(k) {
		written[p.Off+i] = byte(unit >> (8 * i))
	}
	return written, api.OK
}

// Touched tells which bytes have bits of a field (P8.3).
func Touched(p api.Place, k api.TypeKind) (int, int, api.Errno) {
	if !lies(p, k) {
		return 0, 0, api.ErrField
	}
	first, last := p.Bit/8, (p.Bit+p.Bits-1)/8
	if p.Off > math.MaxInt-first { // no int has the byte's number
		return 0, 0, api.ErrField
	}
	return p.Off + first, last - first + 1, api.OK
}

// onUnit does something with the unit that a place has among an object's bytes, and answers what comes of it.
func onUnit(b []byte, p api.Place, k api.TypeKind, do func(unit uint32) uint32) (uint32, api.Errno) {
	width := word.Width(k)
	if !lies(p, k) || p.Off > len(b)-width {
		return 0, api.ErrField
	}
	unit := uint32(0)
	for i := range width {
		unit |= uint32(b[p.Off+i]) << (8 * i)
	}
	return do(unit), api.OK
}

// lies tells whether a place may be a field's of a kind, however long the object is.
func lies(p api.Place, k api.TypeKind) bool {
	return p.Off >= 0 && fits(p.Bit, p.Bits, kindBits(k))
}

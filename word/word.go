// Package word is layer 1: see shared/doc/01-word.md.
package word

import "mortise/api"

// Width tells how many bytes a number has.
func Width(k api.TypeKind) int {
	switch k {
	case api.TBool, api.TChar, api.TSChar, api.TUChar:
		return 1
	case api.TShort, api.TUShort:
		return 2
	case api.TInt, api.TUInt, api.TLong, api.TULong, api.TEnum, api.TPtr:
		return 4
	}
	return 0
}

// Signed tells whether a kind has numbers below 0.
func Signed(k api.TypeKind) bool {
	switch k {
	case api.TChar, api.TSChar, api.TShort, api.TInt, api.TLong, api.TEnum:
		return true
	}
	return false
}

// Convert converts a number.
func Convert(k api.TypeKind, v uint32) uint32 {
	if k == api.TBool {
		return truth(v != 0)
	}
	return extend(v, Width(k), Signed(k))
}

// extend keeps the lowest width bytes of v and fills up what is above them.
func extend(v uint32, width int, signed bool) uint32 {
	switch {
	case width == 1 && signed:
		return uint32(int8(v))
	case width == 1:
		return uint32(uint8(v))
	case width == 2 && signed:
		return uint32(int16(v))
	case width == 2:
		return uint32(uint16(v))
	}
	return v
}

// Int is the number that bits are.
func Int(v uint32) int { return int(int32(v)) }

// Of are a number's lowest bits.
func Of(n int) uint32 { return uint32(n) }

// Fits tells whether a kind has a number.
func Fits(k api.TypeKind, n int) bool {
	least, count := span(k)
	return int64(n) >= least && int64(n) < least+count
}

// span tells the least number of a kind and how many it has. Both have 64 bits, since the unsigned kinds of 4 bytes do not fit an int everywhere.
func span(k api.TypeKind) (least int64, count int64) {
	width := Width(k)
	if width == 0 {
		return 0, 0
	}
	if k == api.TBool {
		return 0, 2
	}
	count = int64(1) << (8 * width)
	if Signed(k) {
		return -count / 2, count
	}
	return 0, count
}

// Bytes are a number's bytes.
func Bytes(v uint32, width int) []byte {
	if !isWidth(width) {
		return nil
	}
	b := make([]byte, width)
	for i := range b {
		b[i] = byte(v >> (8 * i))
	}
	return b
}

// Value is the number of bytes.
func Value(b []byte, signed bool) (uint32, api.Errno) {
	if !isWidth(len(b)) {
		return 0, api.ErrArg
	}
	v := uint32(0)
	for i, x := range b {
		v |= uint32(x) << (8 * i)
	}
	return extend(v, len(b), signed), api.OK
}

// isWidth tells whether numbers may have that many bytes.
func isWidth(n int) bool { return n == 1 || n == 2 || n == 4 }

// truth is the number that C has for a truth.
func truth(yes bool) uint32 {
	if yes {
		return 1
	}
	return 0
}

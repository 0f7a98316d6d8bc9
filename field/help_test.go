package field

import (
	"math"
	"testing"

	"mortise/api"
)

// kindFacts are what P8.2 and layer 1 say of an integer kind, written out once more: the bits of its unit, the most bits of a number, and whether it is signed.
type kindFacts struct {
	kind       api.TypeKind
	unit, most int
	signed     bool
}

func integerKinds() []kindFacts {
	return []kindFacts{
		{api.TBool, 8, 1, false},
		{api.TChar, 8, 8, true}, {api.TSChar, 8, 8, true}, {api.TUChar, 8, 8, false},
		{api.TShort, 16, 16, true}, {api.TUShort, 16, 16, false},
		{api.TInt, 32, 32, true}, {api.TUInt, 32, 32, false},
		{api.TLong, 32, 32, true}, {api.TULong, 32, 32, false},
		{api.TEnum, 32, 32, true},
	}
}

// otherKinds are kinds that are no integers, and numbers that are no kinds. Some of them are an integer kind's number, if taken modulo 2^8, 2^16 or 2^32.
func otherKinds() []api.TypeKind {
	return []api.TypeKind{
		api.TVoid, api.TPtr, api.TArray, api.TStruct, api.TUnion, 0, -1, -8, 17, 18, 100, 256 + 8, 65536 + 8, 1<<32 + 8, math.MaxInt, math.MinInt,
	}
}

// units are numbers of 32 bits whose bits differ in many ways.
func units() []uint32 {
	return []uint32{0, 0xffffffff, 0xabcd, 0x55555555, 0xaaaaaaaa, 0x80000000, 0x7fffffff, 1, 0xfffffffe, 0x12345678, 0xdeadbeef, 0x0f0ff00f}
}

// values are numbers to be put into fields: narrow and wide ones, and some whose lowest bits are 0.
func values() []uint32 {
	return []uint32{0, 1, 2, 3, 4, 5, 0x12, 0x7f, 0x80, 0xff, 0x100, 0x7fff, 0x8000, 0xffff, 0x10000, 0x7fffffff, 0x80000000, 0xfffffff8, 0xffffffff, 0x9e3779b9}
}

// strange are numbers that no bit, no count of bits and no byte may be, or just may be; sums of some of them run over.
func strange() []int {
	return []int{
		math.MinInt, math.MinInt + 1, math.MinInt + 31, math.MinInt + 32, -1 << 32, 1 - 1<<32, -1 << 31, -33, -32, -31, -8, -2, -1,
		0, 1, 2, 7, 8, 9, 15, 16, 17, 30, 31, 32, 33, 34, 63, 64, 65, 256, 257, 65536,
		1<<31 - 1, 1 << 31, 1<<32 - 1, 1 << 32, 1<<32 + 1, 1<<32 + 8, 1 << 62, math.MaxInt - 33, math.MaxInt - 32, math.MaxInt - 31, math.MaxInt - 1, math.MaxInt,
	}
}

// eachField hands out every field that a unit of so many bits has.
func eachField(unit int, do func(bit, bits int)) {
	for bit := range unit {
		for bits := 1; bit+bits <= unit; bits++ {
			do(bit, bits)
		}
	}
}

// number is the number of a list of bits, the lowest first, and above them copies of the highest or noughts.
func number(list []byte, signed bool) uint32 {
	sum, weight := int64(0), int64(1)
	for _, bit := range list {
		sum += int64(bit) * weight
		weight *= 2
	}
	if signed && list[len(list)-1] == 1 {
		sum -= weight
	}
	return uint32(sum)
}

// bitList are the 32 bits of a number, the lowest first.
func bitList(v uint32) []byte {
	list := make([]byte, 32)
	for i := range list {
		list[i] = byte(v % 2)
		v /= 2
	}
	return list
}

// objectBits are all bits of an object's bytes, the lowest of the first byte first.
func objectBits(b []byte) []byte {
	var list []byte
	for _, x := range b {
		list = append(list, bitList(uint32(x))[:8]...)
	}
	return list
}

// objectBytes are the bytes that those bits are.
func objectBytes(list []byte) []byte {
	b := make([]byte, len(list)/8)
	for i := range b {
		b[i] = byte(number(list[8*i:8*i+8], false))
	}
	return b
}

// wantValue is what P8.2 asks of bits that may be.
func wantValue(f kindFacts, bits int, x uint32) uint32 {
	if f.kind == api.TBool {
		return min(x, 1)
	}
	return number(bitList(x)[:bits], f.signed)
}

// mustPut puts a field that may be.
func mustPut(t *testing.T, v, known uint32, bit, bits int, x uint32) (uint32, uint32) {
	t.Helper()
	unit, knows, err := Put(v, known, bit, bits, x)
	if err != api.OK {
		t.Fatalf("Put(%#x, %#x, %d, %d, %#x): error %d", v, known, bit, bits, x, err)
	}
	return unit, knows
}

// mustWrite writes a field that may be.
func mustWrite(t *testing.T, b []byte, p api.Place, k api.TypeKind, x uint32) []byte {
	t.Helper()
	written, err := Write(b, p, k, x)
	if err != api.OK {
		t.Fatalf("Write(% x, %v, %d, %#x): error %d", b, p, k, x, err)
	}
	return written
}

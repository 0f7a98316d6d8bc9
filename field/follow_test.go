package field

import (
	"bytes"
	"testing"

	"mortise/api"
)

// TestP8_4GetOfPut: what was put is had again, as Value tells it.
func TestP8_4GetOfPut(t *testing.T) {
	for _, f := range integerKinds() {
		if f.kind == api.TBool {
			continue
		}
		eachField(32, func(bit, bits int) {
			if bits > f.most {
				return
			}
			for _, x := range values() {
				want, err := Value(f.kind, bits, x)
				if err != api.OK {
					t.Fatalf("Value(%d, %d, %#x): error %d", f.kind, bits, x, err)
				}
				for _, v := range []uint32{0, all, 0x9e3779b9} {
					unit, known := mustPut(t, v, 0, bit, bits, x)
					if got, ok, err := Get(unit, known, bit, bits, f.signed); got != want || !ok || err != api.OK {
						t.Fatalf("Get of Put of %#x at %d, %d = %#x, %v, %d, want %#x", x, bit, bits, got, ok, err, want)
					}
				}
			}
		})
	}
}

// TestP8_4PutOfGet: a field that is put back turns nothing of the unit, nor of what is known.
func TestP8_4PutOfGet(t *testing.T) {
	eachField(32, func(bit, bits int) {
		own, _ := Mask(bit, bits)
		for i, v := range units() {
			known := own | units()[(i+3)%len(units())]
			for _, signed := range []bool{false, true} {
				x, ok, err := Get(v, known, bit, bits, signed)
				if !ok || err != api.OK {
					t.Fatalf("Get(%#x, %#x, %d, %d, %v) = %v, %d", v, known, bit, bits, signed, ok, err)
				}
				if unit, knows := mustPut(t, v, known, bit, bits, x); unit != v || knows != known {
					t.Fatalf("Put of Get(%#x, %#x, %d, %d, %v) = %#x, %#x", v, known, bit, bits, signed, unit, knows)
				}
			}
		}
	})
}

// TestP8_4AnyOrder: of two fields that share no bit either may be put first, and neither turns what the other has.
func TestP8_4AnyOrder(t *testing.T) {
	const x, y = 0x5a5a5a5b, 0xa5c3a5c2
	eachField(32, func(bit, bits int) {
		for other := bit + bits; other < 32; other++ {
			for _, more := range []int{1, 2, 7, 8, 31 - other, 32 - other} {
				if more < 1 || other+more > 32 {
					continue
				}
				v1, k1 := mustPut(t, 0x12345678, 0xff00, bit, bits, x)
				before, _, _ := Get(v1, k1, bit, bits, true)
				v1, k1 = mustPut(t, v1, k1, other, more, y)
				v2, k2 := mustPut(t, 0x12345678, 0xff00, other, more, y)
				v2, k2 = mustPut(t, v2, k2, bit, bits, x)
				if v1 != v2 || k1 != k2 {
					t.Fatalf("fields %d, %d and %d, %d: %#x, %#x or %#x, %#x", bit, bits, other, more, v1, k1, v2, k2)
				}
				if after, ok, err := Get(v1, k1, bit, bits, true); after != before || !ok || err != api.OK {
					t.Fatalf("field %d, %d turned from %#x to %#x by %d, %d", bit, bits, before, after, other, more)
				}
			}
		}
	})
}

// TestP8_4ReadOfWrite: what was written is read again, as Value tells it, of a _Bool too.
func TestP8_4ReadOfWrite(t *testing.T) {
	for _, b := range objects(7) {
		eachPlace(func(f kindFacts, p api.Place) {
			if p.Bits > f.most {
				return
			}
			for _, x := range values() {
				want, err := Value(f.kind, p.Bits, x)
				if err != api.OK {
					t.Fatalf("Value(%d, %d, %#x): error %d", f.kind, p.Bits, x, err)
				}
				written := mustWrite(t, b, p, f.kind, x)
				if got, err := Read(written, p, f.kind); got != want || err != api.OK {
					t.Fatalf("Read of Write(% x, %v, %d, %#x) = %#x, %d, want %#x", b, p, f.kind, x, got, err, want)
				}
			}
		})
	}
}

// TestP8_4Untouched: bytes that are not Touched stay, and each that is has a bit that some number turns.
func TestP8_4Untouched(t *testing.T) {
	for _, b := range objects(7) {
		eachPlace(func(f kindFacts, p api.Place) {
			first, n, err := Touched(p, f.kind)
			if err != api.OK {
				t.Fatalf("Touched(%v, %d): error %d", p, f.kind, err)
			}
			zero, full := mustWrite(t, b, p, f.kind, 0), mustWrite(t, b, p, f.kind, all)
			for _, w := range [][]byte{zero, full} {
				if !bytes.Equal(w[:first], b[:first]) || !bytes.Equal(w[first+n:], b[first+n:]) {
					t.Fatalf("Write(% x, %v, %d, ..) = % x, but touched are %d from %d on", b, p, f.kind, w, n, first)
				}
			}
			for i := first; i < first+n && f.kind != api.TBool; i++ {
				if zero[i] == full[i] {
					t.Fatalf("byte %d of %v, kind %d, is touched, but does not turn", i, p, f.kind)
				}
			}
		})
	}
}

// TestP8_4WriteOfRead: a field that is written back leaves the object as it was.
func TestP8_4WriteOfRead(t *testing.T) {
	for _, b := range objects(7) {
		eachPlace(func(f kindFacts, p api.Place) {
			if p.Bits > f.most {
				return
			}
			x, err := Read(b, p, f.kind)
			if err != api.OK {
				t.Fatalf("Read(% x, %v, %d): error %d", b, p, f.kind, err)
			}
			if got := mustWrite(t, b, p, f.kind, x); !bytes.Equal(got, b) {
				t.Fatalf("Write of Read(% x, %v, %d) = % x", b, p, f.kind, got)
			}
		})
	}
}

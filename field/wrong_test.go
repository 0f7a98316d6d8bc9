package field

import (
	"math"
	"testing"

	"mortise/api"
)

// wantPlace asks which errors the three calls with a place answer, and that nothing stands beside one.
func wantPlace(t *testing.T, b []byte, p api.Place, k api.TypeKind, inBytes, anywhere api.Errno) {
	t.Helper()
	if v, err := Read(b, p, k); err != inBytes || err != api.OK && v != 0 {
		t.Fatalf("Read(%d bytes, %v, %d) = %#x, %d, want error %d", len(b), p, k, v, err, inBytes)
	}
	if w, err := Write(b, p, k, all); err != inBytes || err != api.OK && len(w) != 0 || err == api.OK && len(w) != len(b) {
		t.Fatalf("Write(%d bytes, %v, %d) = % x, %d, want error %d", len(b), p, k, w, err, inBytes)
	}
	if first, n, err := Touched(p, k); err != anywhere || err != api.OK && (first != 0 || n != 0) {
		t.Fatalf("Touched(%v, %d) = %d, %d, %d, want error %d", p, k, first, n, err, anywhere)
	}
}

// wrongOffs are places of bytes: below 0, within an object of 6 bytes, about its end, and so great that the width cannot be added.
func wrongOffs() []int {
	return []int{
		math.MinInt, math.MinInt + 1, -1 << 32, -4, -3, -2, -1, 0, 1, 2, 3, 4, 5, 6, 7, 8, 255, 256, 1 << 31, 1 << 32, 1<<32 + 1,
		math.MaxInt - 4, math.MaxInt - 3, math.MaxInt - 2, math.MaxInt - 1, math.MaxInt,
	}
}

// TestP8_3Offs: Off against the length of b; Touched asks only that it is not below 0.
func TestP8_3Offs(t *testing.T) {
	for _, f := range integerKinds() {
		for n := range 7 {
			for _, off := range wrongOffs() {
				inBytes, anywhere := api.ErrField, api.ErrField
				if off >= 0 {
					anywhere = api.OK
				}
				if off >= 0 && off <= 6 && off+f.unit/8 <= n {
					inBytes = api.OK
				}
				for _, bits := range []int{1, 7, 8} {
					wantPlace(t, make([]byte, n), api.Place{Off: off, Bits: bits}, f.kind, inBytes, anywhere)
				}
			}
		}
	}
}

// TestP8_3Bits: Bit and Bits against the unit of every kind, with Off within b, below 0 and past its end.
func TestP8_3Bits(t *testing.T) {
	for _, f := range integerKinds() {
		for _, bit := range strange() {
			for _, bits := range strange() {
				want := api.ErrField
				if mayBe(bit, bits, f.unit) {
					want = api.OK
				}
				wantPlace(t, make([]byte, 4), api.Place{Bit: bit, Bits: bits}, f.kind, want, want)
				wantPlace(t, make([]byte, 4), api.Place{Off: -1, Bit: bit, Bits: bits}, f.kind, api.ErrField, api.ErrField)
				wantPlace(t, make([]byte, 4), api.Place{Off: 4, Bit: bit, Bits: bits}, f.kind, api.ErrField, want)
			}
		}
	}
}

// TestP8_3Kinds: kinds that are no integers have no fields, whatever the place.
func TestP8_3Kinds(t *testing.T) {
	for _, k := range otherKinds() {
		for _, bit := range strange() {
			for _, bits := range strange() {
				for _, off := range []int{-1, 0, 4, 8, math.MaxInt} {
					wantPlace(t, make([]byte, 8), api.Place{Off: off, Bit: bit, Bits: bits}, k, api.ErrField, api.ErrField)
				}
			}
		}
	}
}

// TestP8_3NoBytes: an empty b and none at all hold no unit; what is zero holds no bits.
func TestP8_3NoBytes(t *testing.T) {
	room := make([]byte, 0, 8)
	for _, b := range [][]byte{nil, {}, room} {
		for _, f := range integerKinds() {
			wantPlace(t, b, api.Place{Bits: 1}, f.kind, api.ErrField, api.OK)
			wantPlace(t, b, api.Place{Off: -f.unit / 8, Bits: 1}, f.kind, api.ErrField, api.ErrField)
			wantPlace(t, b, api.Place{}, f.kind, api.ErrField, api.ErrField)
		}
		wantPlace(t, b, api.Place{Bits: 1}, api.TVoid, api.ErrField, api.ErrField)
		wantPlace(t, b, api.Place{}, 0, api.ErrField, api.ErrField)
	}
}

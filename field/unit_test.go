package field

import (
	"testing"

	"mortise/api"
)

const all = 1<<32 - 1

func TestP8_1Mask(t *testing.T) {
	for _, c := range []struct {
		bit, bits int
		want      uint32
	}{{3, 5, 0xf8}, {0, 1, 1}, {0, 31, 0x7fffffff}, {0, 32, all}, {1, 31, 0xfffffffe}, {31, 1, 0x80000000}, {16, 16, 0xffff0000}} {
		if got, err := Mask(c.bit, c.bits); got != c.want || err != api.OK {
			t.Errorf("Mask(%d, %d) = %#x, %d, want %#x", c.bit, c.bits, got, err, c.want)
		}
	}
	eachField(32, func(bit, bits int) {
		list := make([]byte, 32)
		for i := range bits {
			list[bit+i] = 1
		}
		if got, err := Mask(bit, bits); got != number(list, false) || err != api.OK {
			t.Errorf("Mask(%d, %d) = %#x, %d, want %#x", bit, bits, got, err, number(list, false))
		}
	})
}

func TestP8_1GetExamples(t *testing.T) {
	for _, c := range []struct {
		v, known  uint32
		bit, bits int
		signed    bool
		want      uint32
		ok        bool
	}{
		{0xabcd, all, 4, 8, true, 0xffffffbc, true}, {0xabcd, all, 4, 8, false, 0xbc, true}, {0xabcd, 0xf0, 4, 8, true, 0, false},
		{0xabcd, 0xff0, 4, 8, true, 0xffffffbc, true}, {0xabcd, 0xfe0, 4, 8, true, 0, false}, {0xabcd, 0x7f0, 4, 8, false, 0, false},
		{0x7ff, all, 4, 8, true, 0x7f, true}, {0x7ff, all, 4, 7, true, all, true}, {0x7ff, all, 4, 7, false, 0x7f, true},
		{0x80000000, all, 31, 1, true, all, true}, {0x80000000, all, 31, 1, false, 1, true}, {0x7fffffff, all, 31, 1, true, 0, true},
		{1, 1, 0, 1, true, all, true}, {1, 0xfffffffe, 0, 1, true, 0, false}, {0xfffffffe, 1, 0, 1, true, 0, true},
		{0x80000001, all, 0, 32, true, 0x80000001, true}, {0x80000001, all, 0, 32, false, 0x80000001, true},
		{0x80000001, 0x7fffffff, 0, 32, false, 0, false}, {0xffffffff, 0, 0, 32, false, 0, false}, {0, 0, 5, 3, true, 0, false},
	} {
		got, ok, err := Get(c.v, c.known, c.bit, c.bits, c.signed)
		if got != c.want || ok != c.ok || err != api.OK {
			t.Errorf("Get(%#x, %#x, %d, %d, %v) = %#x, %v, %d, want %#x, %v", c.v, c.known, c.bit, c.bits, c.signed, got, ok, err, c.want, c.ok)
		}
	}
}

// TestP8_1Get holds every field, signed and not, against its list of bits: all bits known, and only its own.
func TestP8_1Get(t *testing.T) {
	eachField(32, func(bit, bits int) {
		own, _ := Mask(bit, bits)
		for _, v := range units() {
			for _, signed := range []bool{false, true} {
				want := number(bitList(v)[bit:bit+bits], signed)
				for _, known := range []uint32{all, own} {
					if got, ok, err := Get(v, known, bit, bits, signed); got != want || !ok || err != api.OK {
						t.Fatalf("Get(%#x, %#x, %d, %d, %v) = %#x, %v, %d, want %#x", v, known, bit, bits, signed, got, ok, err, want)
					}
				}
			}
		}
	})
}

// TestP8_1GetUnknown: one unknown bit within the field is enough for false, and one outside of it is not.
func TestP8_1GetUnknown(t *testing.T) {
	eachField(32, func(bit, bits int) {
		for i := range 32 {
			list := bitList(all)
			list[i] = 0
			known := number(list, false)
			within := bit <= i && i < bit+bits
			for _, v := range []uint32{0, all, 0xdeadbeef} {
				got, ok, err := Get(v, known, bit, bits, true)
				if ok == within || within && got != 0 || err != api.OK {
					t.Fatalf("Get(%#x, %#x, %d, %d, true) = %#x, %v, %d", v, known, bit, bits, got, ok, err)
				}
			}
		}
	})
}

func TestP8_1PutExamples(t *testing.T) {
	for _, c := range []struct {
		v, known    uint32
		bit, bits   int
		x           uint32
		want, knows uint32
	}{
		{0, 0, 4, 4, 0x12, 0x20, 0xf0}, {all, 0, 4, 4, 0x12, 0xffffff2f, 0xf0}, {all, 0xf00f, 4, 4, 0, 0xffffff0f, 0xf0ff},
		{0, 0, 0, 32, 0xdeadbeef, 0xdeadbeef, all}, {all, all, 0, 32, 0, 0, all}, {0, 0, 31, 1, 3, 0x80000000, 0x80000000},
		{all, 1, 31, 1, 2, 0x7fffffff, 0x80000001}, {all, 0, 0, 1, 2, 0xfffffffe, 1}, {0, 0, 1, 31, all, 0xfffffffe, 0xfffffffe},
		{0xabcd, 0, 0, 31, 0x80000000, 0, 0x7fffffff}, {0x12345678, 0xff, 8, 8, 0xab, 0x1234ab78, 0xffff},
	} {
		got, knows, err := Put(c.v, c.known, c.bit, c.bits, c.x)
		if got != c.want || knows != c.knows || err != api.OK {
			t.Errorf("Put(%#x, %#x, %d, %d, %#x) = %#x, %#x, %d, want %#x, %#x", c.v, c.known, c.bit, c.bits, c.x, got, knows, err, c.want, c.knows)
		}
	}
}

// TestP8_1Put holds every field against the list of bits in which just its own are changed.
func TestP8_1Put(t *testing.T) {
	eachField(32, func(bit, bits int) {
		for i, v := range units() {
			known := units()[(i+5)%len(units())]
			for _, x := range values() {
				list, knows := bitList(v), bitList(known)
				for j := range bits {
					list[bit+j], knows[bit+j] = bitList(x)[j], 1
				}
				got, gotKnows, err := Put(v, known, bit, bits, x)
				if got != number(list, false) || gotKnows != number(knows, false) || err != api.OK {
					t.Fatalf("Put(%#x, %#x, %d, %d, %#x) = %#x, %#x, %d", v, known, bit, bits, x, got, gotKnows, err)
				}
			}
		}
	})
}

// mayBe tells which fields the chapter takes; a sum is made only of what is small.
func mayBe(bit, bits, unit int) bool {
	if bit < 0 || bit > unit-1 || bits < 1 || bits > unit {
		return false
	}
	return bit+bits <= unit
}

// TestP8_1Refused: fields that may not be are refused by all three, with nothing beside the error; the others by none.
func TestP8_1Refused(t *testing.T) {
	for _, bit := range strange() {
		for _, bits := range strange() {
			want := api.ErrField
			if mayBe(bit, bits, 32) {
				want = api.OK
			}
			m, err := Mask(bit, bits)
			if err != want || (m == 0) == (want == api.OK) {
				t.Errorf("Mask(%d, %d) = %#x, %d, want error %d", bit, bits, m, err, want)
			}
			for _, signed := range []bool{false, true} {
				v, ok, err := Get(all, all, bit, bits, signed)
				if err != want || ok != (want == api.OK) || ok == (v == 0) {
					t.Errorf("Get(.., %d, %d, %v) = %#x, %v, %d, want error %d", bit, bits, signed, v, ok, err, want)
				}
			}
			if _, ok, err := Get(all, 0, bit, bits, true); ok || err != want {
				t.Errorf("Get(all, 0, %d, %d) = %v, %d, want error %d", bit, bits, ok, err, want)
			}
			v, known, err := Put(all, all, bit, bits, all)
			if err != want || (v == 0) == (want == api.OK) || (known == 0) == (want == api.OK) {
				t.Errorf("Put(.., %d, %d, ..) = %#x, %#x, %d, want error %d", bit, bits, v, known, err, want)
			}
		}
	}
	for _, c := range [][2]int{{0, 33}, {1, 32}, {31, 2}, {32, 1}, {32, 0}, {16, 17}, {0, 0}, {31, 0}, {0, -1}, {-1, 1}, {-1, 33}} {
		if m, err := Mask(c[0], c[1]); m != 0 || err != api.ErrField {
			t.Errorf("Mask(%d, %d) = %#x, %d, want 0 and ErrField", c[0], c[1], m, err)
		}
	}
}

func TestP8_2Examples(t *testing.T) {
	for _, c := range []struct {
		kind    api.TypeKind
		bits    int
		x, want uint32
	}{
		{api.TInt, 3, 5, 0xfffffffd}, {api.TUInt, 3, 13, 5}, {api.TBool, 1, 2, 1}, {api.TBool, 1, 0, 0}, {api.TBool, 1, 0x80000000, 1}, {api.TBool, 1, all, 1},
		{api.TInt, 1, 1, all}, {api.TUInt, 1, 1, 1}, {api.TInt, 1, 2, 0}, {api.TInt, 32, 0x80000000, 0x80000000}, {api.TUInt, 32, all, all},
		{api.TInt, 31, 0x40000000, 0xc0000000}, {api.TUInt, 31, all, 0x7fffffff}, {api.TChar, 8, 0x80, 0xffffff80}, {api.TUChar, 8, 0x1ff, 0xff},
		{api.TShort, 16, 0x18000, 0xffff8000}, {api.TUShort, 16, 0xffffffff, 0xffff}, {api.TEnum, 2, 2, 0xfffffffe}, {api.TLong, 4, 7, 7}, {api.TULong, 4, 24, 8},
	} {
		if got, err := Value(c.kind, c.bits, c.x); got != c.want || err != api.OK {
			t.Errorf("Value(%d, %d, %#x) = %#x, %d, want %#x", c.kind, c.bits, c.x, got, err, c.want)
		}
	}
	if got, err := Value(api.TBool, 2, 0); got != 0 || err != api.ErrField {
		t.Errorf("Value(TBool, 2, 0) = %#x, %d, want 0 and ErrField", got, err)
	}
}

func TestP8_2Value(t *testing.T) {
	for _, f := range integerKinds() {
		for bits := 1; bits <= f.most; bits++ {
			for _, x := range append(values(), units()...) {
				if got, err := Value(f.kind, bits, x); got != wantValue(f, bits, x) || err != api.OK {
					t.Fatalf("Value(%d, %d, %#x) = %#x, %d, want %#x", f.kind, bits, x, got, err, wantValue(f, bits, x))
				}
			}
		}
	}
}

// TestP8_2Refused: bits that a kind has not, one more than the most among them, and kinds that are no integers.
func TestP8_2Refused(t *testing.T) {
	for _, f := range integerKinds() {
		for _, bits := range append(strange(), f.most+1, f.most+2, 2*f.most) {
			if mayBe(0, bits, f.most) {
				continue
			}
			for _, x := range []uint32{0, 1, all} {
				if got, err := Value(f.kind, bits, x); got != 0 || err != api.ErrField {
					t.Errorf("Value(%d, %d, %#x) = %#x, %d, want 0 and ErrField", f.kind, bits, x, got, err)
				}
			}
		}
	}
	for _, k := range otherKinds() {
		for _, bits := range strange() {
			if got, err := Value(k, bits, all); got != 0 || err != api.ErrField {
				t.Errorf("Value(%d, %d, all) = %#x, %d, want 0 and ErrField", k, bits, got, err)
			}
		}
	}
}

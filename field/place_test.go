package field

import (
	"bytes"
	"math"
	"testing"

	"mortise/api"
)

// objects are bytes of which no two that stand near one another are alike, and some that are all alike.
func objects(n int) [][]byte {
	mixed := make([]byte, n)
	for i := range mixed {
		mixed[i] = byte(0x9d + 0x4b*i)
	}
	return [][]byte{mixed, make([]byte, n), bytes.Repeat([]byte{0xff}, n)}
}

// eachPlace hands out every field of every kind at the first place of an object of 7 bytes, at the last one, and at one between.
func eachPlace(do func(f kindFacts, p api.Place)) {
	for _, f := range integerKinds() {
		for _, off := range []int{0, 1, 7 - f.unit/8} {
			eachField(f.unit, func(bit, bits int) {
				do(f, api.Place{Off: off, Bit: bit, Bits: bits})
			})
		}
	}
}

// span are the field's first bit in the object, and the one behind its last.
func span(p api.Place) (int, int) { return 8*p.Off + p.Bit, 8*p.Off + p.Bit + p.Bits }

func TestP8_3Examples(t *testing.T) {
	p := api.Place{Bit: 6, Bits: 4}
	if b, err := Write(make([]byte, 4), p, api.TInt, 0xf); !bytes.Equal(b, []byte{0xc0, 3, 0, 0}) || err != api.OK {
		t.Errorf("Write = % x, %d", b, err)
	}
	if first, n, err := Touched(p, api.TInt); first != 0 || n != 2 || err != api.OK {
		t.Errorf("Touched = %d, %d, %d", first, n, err)
	}
	b := []byte{0x11, 0x78, 0x56, 0x34, 0x92, 0x22}
	for _, c := range []struct {
		kind           api.TypeKind
		off, bit, bits int
		want           uint32
	}{
		{api.TInt, 1, 0, 32, 0x92345678}, {api.TUInt, 1, 28, 4, 9}, {api.TInt, 1, 28, 4, 0xfffffff9}, {api.TInt, 1, 4, 8, 0x67},
		{api.TEnum, 1, 30, 2, 0xfffffffe}, {api.TULong, 2, 24, 8, 0x22}, {api.TShort, 3, 8, 8, 0xffffff92}, {api.TUShort, 3, 4, 12, 0x923},
		{api.TUChar, 0, 4, 1, 1}, {api.TChar, 0, 4, 1, all}, {api.TBool, 0, 4, 1, 1}, {api.TBool, 0, 5, 1, 0}, {api.TChar, 5, 1, 7, 0x11},
	} {
		p := api.Place{Off: c.off, Bit: c.bit, Bits: c.bits}
		if got, err := Read(b, p, c.kind); got != c.want || err != api.OK {
			t.Errorf("Read(% x, %v, %d) = %#x, %d, want %#x", b, p, c.kind, got, err, c.want)
		}
	}
}

func TestP8_3Read(t *testing.T) {
	for _, b := range objects(7) {
		eachPlace(func(f kindFacts, p api.Place) {
			from, to := span(p)
			want := number(objectBits(b)[from:to], f.signed)
			if got, err := Read(b, p, f.kind); got != want || err != api.OK {
				t.Fatalf("Read(% x, %v, %d) = %#x, %d, want %#x", b, p, f.kind, got, err, want)
			}
		})
	}
}

func TestP8_3Write(t *testing.T) {
	for _, b := range objects(7) {
		before := bytes.Clone(b)
		eachPlace(func(f kindFacts, p api.Place) {
			from, to := span(p)
			for _, x := range values() {
				list, put := objectBits(b), bitList(x)
				if f.kind == api.TBool {
					put = bitList(wantValue(f, 1, x))
				}
				copy(list[from:to], put)
				if got, err := Write(b, p, f.kind, x); !bytes.Equal(got, objectBytes(list)) || err != api.OK {
					t.Fatalf("Write(% x, %v, %d, %#x) = % x, %d, want % x", b, p, f.kind, x, got, err, objectBytes(list))
				}
			}
		})
		if !bytes.Equal(b, before) {
			t.Fatalf("Write changed % x to % x", before, b)
		}
	}
}

// TestP8_3WriteBool: any number but 0 writes a 1, also into a field of more bits than a _Bool has, which places (but not Value) may tell.
func TestP8_3WriteBool(t *testing.T) {
	for _, c := range []struct {
		bit, bits int
		x         uint32
		want      byte
	}{{0, 1, 0, 0xfe}, {0, 1, 1, 0xff}, {0, 1, 2, 0xff}, {7, 1, 0, 0x7f}, {7, 1, 256, 0xff}, {2, 3, 6, 0xe7}, {0, 8, 0x80000000, 1}, {0, 8, 0, 0}} {
		p := api.Place{Bit: c.bit, Bits: c.bits}
		if got, err := Write([]byte{0xff}, p, api.TBool, c.x); !bytes.Equal(got, []byte{c.want}) || err != api.OK {
			t.Errorf("Write(ff, %v, TBool, %#x) = % x, %d, want %02x", p, c.x, got, err, c.want)
		}
	}
}

func TestP8_3TouchedExamples(t *testing.T) {
	for _, c := range []struct {
		kind           api.TypeKind
		off, bit, bits int
		first, n       int
	}{
		{api.TInt, 0, 0, 1, 0, 1}, {api.TInt, 0, 7, 1, 0, 1}, {api.TInt, 0, 8, 1, 1, 1}, {api.TInt, 4, 31, 1, 7, 1},
		{api.TInt, 0, 0, 8, 0, 1}, {api.TInt, 0, 0, 9, 0, 2}, {api.TInt, 0, 7, 2, 0, 2}, {api.TInt, 0, 7, 10, 0, 3}, {api.TInt, 0, 7, 18, 0, 4},
		{api.TInt, 0, 8, 16, 1, 2}, {api.TInt, 100, 15, 2, 101, 2}, {api.TUInt, 0, 0, 32, 0, 4}, {api.TUShort, 2, 0, 16, 2, 2}, {api.TShort, 2, 8, 8, 3, 1},
		{api.TBool, 3, 5, 1, 3, 1}, {api.TUChar, 9, 0, 8, 9, 1}, {api.TEnum, 16380, 24, 8, 16383, 1},
	} {
		p := api.Place{Off: c.off, Bit: c.bit, Bits: c.bits}
		if first, n, err := Touched(p, c.kind); first != c.first || n != c.n || err != api.OK {
			t.Errorf("Touched(%v, %d) = %d, %d, %d, want %d, %d", p, c.kind, first, n, err, c.first, c.n)
		}
	}
}

// TestP8_3Touched counts the bytes bit by bit.
func TestP8_3Touched(t *testing.T) {
	eachPlace(func(f kindFacts, p api.Place) {
		counts := map[int]int{}
		from, to := span(p)
		least := from / 8
		for i := from; i < to; i++ {
			counts[i/8]++
		}
		if first, n, err := Touched(p, f.kind); first != least || n != len(counts) || err != api.OK {
			t.Fatalf("Touched(%v, %d) = %d, %d, %d, want %d, %d", p, f.kind, first, n, err, least, len(counts))
		}
	})
}

// TestP8_3TouchedFar: no object bounds Touched, so a byte far away is told while an int has its number, and never taken round.
func TestP8_3TouchedFar(t *testing.T) {
	for _, c := range []struct {
		off, bit, bits int
		first, n       int
		err            api.Errno
	}{
		{1 << 40, 9, 9, 1<<40 + 1, 2, api.OK}, {math.MaxInt - 3, 0, 32, math.MaxInt - 3, 4, api.OK}, {math.MaxInt - 3, 24, 8, math.MaxInt, 1, api.OK},
		{math.MaxInt - 2, 16, 8, math.MaxInt, 1, api.OK}, {math.MaxInt - 2, 24, 8, 0, 0, api.ErrField}, {math.MaxInt, 0, 8, math.MaxInt, 1, api.OK},
		{math.MaxInt, 6, 4, math.MaxInt, 2, api.OK}, {math.MaxInt, 8, 1, 0, 0, api.ErrField}, {math.MaxInt, 31, 1, 0, 0, api.ErrField},
	} {
		p := api.Place{Off: c.off, Bit: c.bit, Bits: c.bits}
		if first, n, err := Touched(p, api.TInt); first != c.first || n != c.n || err != c.err {
			t.Errorf("Touched(%v, TInt) = %d, %d, %d, want %d, %d, %d", p, first, n, err, c.first, c.n, c.err)
		}
	}
}

// TestP8_3NotLookedAt: a place's Type and Member turn nothing, whatever they are.
func TestP8_3NotLookedAt(t *testing.T) {
	b := objects(7)[0]
	for _, n := range strange() {
		plain := api.Place{Off: 2, Bit: 5, Bits: 20}
		p := plain
		p.Member, p.Type = n, -n/3
		want, _ := Read(b, plain, api.TInt)
		if got, err := Read(b, p, api.TInt); got != want || err != api.OK {
			t.Errorf("Read(.., %v, ..) = %#x, %d, want %#x", p, got, err, want)
		}
		written := mustWrite(t, b, plain, api.TInt, 0x12345)
		if got, err := Write(b, p, api.TInt, 0x12345); !bytes.Equal(got, written) || err != api.OK {
			t.Errorf("Write(.., %v, ..) = % x, %d, want % x", p, got, err, written)
		}
		if first, n, err := Touched(p, api.TInt); first != 2 || n != 4 || err != api.OK {
			t.Errorf("Touched(%v, ..) = %d, %d, %d", p, first, n, err)
		}
	}
}

// TestP8_3Memory: what Write answers is the caller's own, what is handed in stays as it was, and what lies behind its end is nobody's.
func TestP8_3Memory(t *testing.T) {
	behind := []byte{1, 2, 3, 4, 0xaa, 0xbb, 0xcc, 0xdd}
	before := bytes.Clone(behind)
	b, p := behind[:4], api.Place{Bits: 32}
	first := mustWrite(t, b, p, api.TUInt, 0xdeadbeef)
	second := mustWrite(t, b, p, api.TUInt, 0xdeadbeef)
	same := mustWrite(t, b, p, api.TUInt, 0x04030201)
	clear(first)
	clear(same)
	if got, err := Read(b, p, api.TUInt); got != 0x04030201 || err != api.OK || !bytes.Equal(behind, before) {
		t.Errorf("Read = %#x, %d, and what was handed in is % x", got, err, behind)
	}
	if !bytes.Equal(second, []byte{0xef, 0xbe, 0xad, 0xde}) {
		t.Errorf("two answers share memory: % x", second)
	}
	clear(b)
	if !bytes.Equal(second, []byte{0xef, 0xbe, 0xad, 0xde}) {
		t.Errorf("an answer shares memory with what was handed in: % x", second)
	}
	far := api.Place{Off: 1, Bits: 8}
	if got, err := Write(b, far, api.TUInt, 1); len(got) != 0 || err != api.ErrField {
		t.Errorf("Write past the end, where there is room = % x, %d", got, err)
	}
	if got, err := Read(b, far, api.TUInt); got != 0 || err != api.ErrField {
		t.Errorf("Read past the end, where there is room = %#x, %d", got, err)
	}
}

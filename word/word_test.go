package word

import (
	"bytes"
	"math"
	"testing"

	"mortise/api"
)

// kindFacts are what P1.1 and P1.3 say of a kind, written out once more.
type kindFacts struct {
	kind        api.TypeKind
	width       int
	signed      bool
	least, most int64
}

const (
	leastInt = -1 << 31
	mostInt  = 1<<31 - 1
	mostUInt = 1<<32 - 1
)

func numberKinds() []kindFacts {
	return []kindFacts{
		{api.TBool, 1, false, 0, 1},
		{api.TChar, 1, true, -128, 127},
		{api.TSChar, 1, true, -128, 127},
		{api.TUChar, 1, false, 0, 255},
		{api.TShort, 2, true, -32768, 32767},
		{api.TUShort, 2, false, 0, 65535},
		{api.TInt, 4, true, leastInt, mostInt},
		{api.TUInt, 4, false, 0, mostUInt},
		{api.TLong, 4, true, leastInt, mostInt},
		{api.TULong, 4, false, 0, mostUInt},
		{api.TEnum, 4, true, leastInt, mostInt},
		{api.TPtr, 4, false, 0, mostUInt},
	}
}

// otherKinds are kinds that numbers do not have, and numbers that are no kinds.
func otherKinds() []api.TypeKind {
	return []api.TypeKind{api.TVoid, api.TArray, api.TStruct, api.TUnion, 0, -1, 17, 100, math.MaxInt, math.MinInt}
}

// edges are numbers at which something turns: signs, widths, places of a shift.
func edges() []uint32 {
	return []uint32{
		0, 1, 2, 3, 5, 7, 8, 15, 16, 17, 30, 31, 32, 33, 34, 63, 64, 65, 100,
		0x7e, 0x7f, 0x80, 0x81, 0xfe, 0xff, 0x100, 0x101, 0x17f, 0x180, 0x1ff,
		0x7ffe, 0x7fff, 0x8000, 0x8001, 0xfffe, 0xffff, 0x10000, 0x10001, 0x18000, 0x1ffff,
		0x12345678, 0x7ffffffe, 0x7fffffff, 0x80000000, 0x80000001, 0x80000020, 0xdeadbeef,
		0xffff7fff, 0xffff8000, 0xffffff7f, 0xffffff80, 0xffffffe0, 0xfffffff9, 0xfffffffe, 0xffffffff,
	}
}

func TestP1_1Width(t *testing.T) {
	for _, f := range numberKinds() {
		if got := Width(f.kind); got != f.width {
			t.Errorf("Width(%d) = %d, want %d", f.kind, got, f.width)
		}
	}
	for _, k := range otherKinds() {
		if got := Width(k); got != 0 {
			t.Errorf("Width(%d) = %d, want 0", k, got)
		}
	}
}

func TestP1_1Signed(t *testing.T) {
	for _, f := range numberKinds() {
		if got := Signed(f.kind); got != f.signed {
			t.Errorf("Signed(%d) = %v, want %v", f.kind, got, f.signed)
		}
	}
	for _, k := range otherKinds() {
		if Signed(k) {
			t.Errorf("Signed(%d)", k)
		}
	}
}

func TestP1_2ConvertExamples(t *testing.T) {
	for _, c := range []struct {
		kind    api.TypeKind
		v, want uint32
	}{
		{api.TChar, 0x1ff, 0xffffffff}, {api.TUChar, 0x1ff, 0xff},
		{api.TBool, 0, 0}, {api.TBool, 1, 1}, {api.TBool, 2, 1}, {api.TBool, 256, 1}, {api.TBool, 0x80000000, 1},
		{api.TChar, 0x7f, 0x7f}, {api.TChar, 0x80, 0xffffff80}, {api.TChar, 0xffffff00, 0},
		{api.TSChar, 0x80, 0xffffff80}, {api.TSChar, 0x17f, 0x7f}, {api.TUChar, 0xffffff80, 0x80},
		{api.TShort, 0x7fff, 0x7fff}, {api.TShort, 0x8000, 0xffff8000}, {api.TShort, 0x12345678, 0x5678},
		{api.TUShort, 0xffff8000, 0x8000}, {api.TUShort, 0x10000, 0},
		{api.TVoid, 0xdeadbeef, 0xdeadbeef}, {api.TStruct, 0x1ff, 0x1ff}, {99, 0x180, 0x180}, {-1, 0x8000, 0x8000},
	} {
		if got := Convert(c.kind, c.v); got != c.want {
			t.Errorf("Convert(%d, %#x) = %#x, want %#x", c.kind, c.v, got, c.want)
		}
	}
}

// TestP1_2Convert holds every kind against the number modulo 2^(8 * width) that lies within the kind's range.
func TestP1_2Convert(t *testing.T) {
	for _, v := range edges() {
		for _, f := range numberKinds() {
			want := int64(v) & (1<<(8*f.width) - 1)
			if want > f.most {
				want -= 1 << (8 * f.width)
			}
			if f.kind == api.TBool {
				want = int64(min(v, 1))
			}
			if got := Convert(f.kind, v); got != uint32(want) {
				t.Errorf("Convert(%d, %#x) = %#x, want %#x", f.kind, v, got, uint32(want))
			}
		}
		for _, k := range otherKinds() {
			if got := Convert(k, v); got != v {
				t.Errorf("Convert(%d, %#x) = %#x, want it as it was", k, v, got)
			}
		}
	}
}

func TestP1_3Int(t *testing.T) {
	for _, c := range []struct {
		v    uint32
		want int
	}{{0, 0}, {1, 1}, {0x7fffffff, mostInt}, {0x80000000, leastInt}, {0x80000001, leastInt + 1}, {0xffffffff, -1}, {0xfffffff9, -7}} {
		if got := Int(c.v); got != c.want {
			t.Errorf("Int(%#x) = %d, want %d", c.v, got, c.want)
		}
	}
}

func TestP1_3Of(t *testing.T) {
	for _, c := range []struct {
		n    int
		want uint32
	}{
		{0, 0}, {1, 1}, {-1, 0xffffffff}, {mostInt, 0x7fffffff}, {leastInt, 0x80000000},
		{leastInt - 1, 0x7fffffff}, {mostUInt, 0xffffffff}, {mostUInt + 1, 0}, {-mostUInt - 1, 0}, {-mostUInt, 1},
		{0x123456789abcdef0, 0x9abcdef0}, {math.MaxInt, 0xffffffff}, {math.MinInt, 0},
	} {
		if got := Of(c.n); got != c.want {
			t.Errorf("Of(%d) = %#x, want %#x", c.n, got, c.want)
		}
	}
	for _, v := range edges() {
		if got := Of(Int(v)); got != v {
			t.Errorf("Of(Int(%#x)) = %#x", v, got)
		}
	}
}

// numbers are the ends of every kind's range, what lies beside them, and the ends of int.
func numbers() []int {
	list := []int{0, 1, 2, -1, -2, mostUInt + 1, -mostUInt - 1, math.MinInt, math.MinInt + 1, math.MaxInt - 1, math.MaxInt}
	for _, f := range numberKinds() {
		list = append(list, int(f.least)-1, int(f.least), int(f.least)+1, int(f.most)-1, int(f.most), int(f.most)+1)
	}
	return list
}

func TestP1_3Fits(t *testing.T) {
	for _, n := range numbers() {
		for _, f := range numberKinds() {
			want := f.least <= int64(n) && int64(n) <= f.most
			if got := Fits(f.kind, n); got != want {
				t.Errorf("Fits(%d, %d) = %v, want %v", f.kind, n, got, want)
			}
		}
		for _, k := range otherKinds() {
			if Fits(k, n) {
				t.Errorf("Fits(%d, %d)", k, n)
			}
		}
	}
}

func TestP1_5Bytes(t *testing.T) {
	for _, c := range []struct {
		v     uint32
		width int
		want  []byte
	}{
		{0x12345678, 1, []byte{0x78}}, {0x12345678, 2, []byte{0x78, 0x56}}, {0x12345678, 4, []byte{0x78, 0x56, 0x34, 0x12}},
		{0xffffff80, 1, []byte{0x80}}, {0, 4, []byte{0, 0, 0, 0}}, {1, 4, []byte{1, 0, 0, 0}},
	} {
		if got := Bytes(c.v, c.width); !bytes.Equal(got, c.want) {
			t.Errorf("Bytes(%#x, %d) = % x, want % x", c.v, c.width, got, c.want)
		}
	}
	for _, width := range []int{0, 3, 5, 6, 7, 8, 16, -1, -2, -4, mostUInt + 2, math.MaxInt, math.MinInt} {
		if got := Bytes(0x12345678, width); len(got) != 0 {
			t.Errorf("Bytes(.., %d) = % x, want nothing", width, got)
		}
	}
}

func TestP1_5Value(t *testing.T) {
	for _, c := range []struct {
		b      []byte
		signed bool
		want   uint32
	}{
		{[]byte{0x78, 0x56}, true, 0x5678}, {[]byte{0x80}, true, 0xffffff80}, {[]byte{0x80}, false, 0x80},
		{[]byte{0x7f}, true, 0x7f}, {[]byte{0xff, 0x7f}, true, 0x7fff}, {[]byte{0, 0x80}, true, 0xffff8000},
		{[]byte{0, 0x80}, false, 0x8000}, {[]byte{0x80, 0}, true, 0x80},
		{[]byte{1, 2, 3, 0x84}, true, 0x84030201}, {[]byte{1, 2, 3, 0x84}, false, 0x84030201}, {[]byte{0, 0, 0, 0}, true, 0},
	} {
		if got, err := Value(c.b, c.signed); got != c.want || err != api.OK {
			t.Errorf("Value(% x, %v) = %#x, %d, want %#x", c.b, c.signed, got, err, c.want)
		}
	}
	for _, n := range []int{0, 3, 5, 6, 7, 8, 9, 1000} {
		for _, signed := range []bool{false, true} {
			if got, err := Value(bytes.Repeat([]byte{0xff}, n), signed); got != 0 || err != api.ErrArg {
				t.Errorf("Value of %d bytes = %#x, %d, want 0 and ErrArg", n, got, err)
			}
		}
	}
	if got, err := Value(nil, true); got != 0 || err != api.ErrArg {
		t.Errorf("Value(nil) = %#x, %d, want 0 and ErrArg", got, err)
	}
}

// TestP1_5Memory: an answer is the caller's own, and what is handed in stays as it was.
func TestP1_5Memory(t *testing.T) {
	first := Bytes(0x12345678, 4)
	clear(first)
	if second := Bytes(0x12345678, 4); !bytes.Equal(second, []byte{0x78, 0x56, 0x34, 0x12}) {
		t.Errorf("two answers share memory: % x", second)
	}
	given := []byte{1, 2, 0x83, 4}
	if got, _ := Value(given[1:3:4], true); got != 0xffff8302 || !bytes.Equal(given, []byte{1, 2, 0x83, 4}) {
		t.Errorf("Value of a piece = %#x, and the bytes are % x", got, given)
	}
}

func TestP1_6Conversions(t *testing.T) {
	for _, v := range edges() {
		for _, f := range numberKinds() {
			once := Convert(f.kind, v)
			if twice := Convert(f.kind, once); twice != once {
				t.Errorf("Convert(%d, %#x): once %#x, twice %#x", f.kind, v, once, twice)
			}
			if got, err := Value(Bytes(once, Width(f.kind)), Signed(f.kind)); got != once || err != api.OK {
				t.Errorf("Value of Bytes of %#x, kind %d = %#x, %d", once, f.kind, got, err)
			}
		}
	}
	for _, n := range numbers() {
		for _, f := range numberKinds() {
			if Fits(f.kind, n) && Convert(f.kind, Of(n)) != Of(n) {
				t.Errorf("%d fits kind %d, but becomes %#x", n, f.kind, Convert(f.kind, Of(n)))
			}
		}
	}
}

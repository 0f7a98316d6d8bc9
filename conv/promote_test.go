package conv

import (
	"math"
	"testing"

	"mortise/api"
)

// TestP7_1Examples: the chapter's examples.
func TestP7_1Examples(t *testing.T) {
	if k, err := Usual(api.TChar, api.TUShort); k != api.TInt || err != api.OK {
		t.Errorf("Usual(TChar, TUShort) = %d, %d", k, err)
	}
	if k, err := Usual(api.TLong, api.TUInt); k != api.TULong || err != api.OK {
		t.Errorf("Usual(TLong, TUInt) = %d, %d", k, err)
	}
	if k := Promote(api.TUInt, 5); k != api.TInt {
		t.Errorf("Promote(TUInt, 5) = %d", k)
	}
}

// promotions are the kinds to which kinds are promoted that have no bits.
func promotions() map[api.TypeKind]api.TypeKind {
	return map[api.TypeKind]api.TypeKind{
		api.TVoid: api.TVoid, api.TBool: api.TInt, api.TChar: api.TInt, api.TSChar: api.TInt, api.TUChar: api.TInt,
		api.TShort: api.TInt, api.TUShort: api.TInt, api.TInt: api.TInt, api.TUInt: api.TUInt, api.TLong: api.TLong,
		api.TULong: api.TULong, api.TEnum: api.TInt, api.TPtr: api.TPtr, api.TArray: api.TArray, api.TStruct: api.TStruct, api.TUnion: api.TUnion,
	}
}

// TestP7_1PromoteNoField: kinds that are no bit-field's, or one's that has as many bits as an int, or more.
func TestP7_1PromoteNoField(t *testing.T) {
	for k, want := range promotions() {
		for _, bits := range []int{-1, -2, -31, -32, math.MinInt, math.MinInt32, 32, 33, 63, 64, 1 << 20, 1 << 32, math.MaxInt32, math.MaxInt} {
			if got := Promote(k, bits); got != want {
				t.Errorf("Promote(%d, %d) = %d, want %d", k, bits, got, want)
			}
		}
	}
}

// TestP7_1PromoteField: bit-fields of fewer bits than an int has become int, of every integer; other kinds stay.
func TestP7_1PromoteField(t *testing.T) {
	for k := range promotions() {
		want := api.TInt
		if k == api.TVoid || k > api.TEnum {
			want = k
		}
		for bits := range 32 {
			if got := Promote(k, bits); got != want {
				t.Errorf("Promote(%d, %d) = %d, want %d", k, bits, got, want)
			}
		}
	}
}

// TestP7_1PromoteStrange: what is no kind stays what it is.
func TestP7_1PromoteStrange(t *testing.T) {
	for _, k := range strangeKinds() {
		for _, bits := range []int{math.MinInt, -1, 0, 1, 5, 31, 32, 33, math.MaxInt} {
			if got := Promote(k, bits); got != k {
				t.Errorf("Promote(%d, %d) = %d", k, bits, got)
			}
		}
	}
}

// usualTable has a line for each integer, and in it a letter for each other one: i int, u unsigned int, l long, m unsigned long.
func usualTable() [11]string {
	return [11]string{
		"iiiiiiiulmi", // _Bool
		"iiiiiiiulmi", // char
		"iiiiiiiulmi", // signed char
		"iiiiiiiulmi", // unsigned char
		"iiiiiiiulmi", // short
		"iiiiiiiulmi", // unsigned short
		"iiiiiiiulmi", // int
		"uuuuuuuummu", // unsigned int
		"lllllllmlml", // long
		"mmmmmmmmmmm", // unsigned long
		"iiiiiiiulmi", // enum
	}
}

// usualKind is the kind of a letter.
func usualKind(letter byte) api.TypeKind {
	return map[byte]api.TypeKind{'i': api.TInt, 'u': api.TUInt, 'l': api.TLong, 'm': api.TULong}[letter]
}

// TestP7_1UsualAll: every two integers, both orders.
func TestP7_1UsualAll(t *testing.T) {
	for i, line := range usualTable() {
		for j := range line {
			a, b := api.TBool+api.TypeKind(i), api.TBool+api.TypeKind(j)
			if k, err := Usual(a, b); k != usualKind(line[j]) || err != api.OK {
				t.Errorf("Usual(%d, %d) = %d, %d, want %d, 0", a, b, k, err, usualKind(line[j]))
			}
		}
	}
}

// TestP7_1UsualRefused: two kinds of which one is no integer, both orders.
func TestP7_1UsualRefused(t *testing.T) {
	wrong := append(strangeKinds(), otherKinds()...)
	all := wrong
	for k := api.TBool; k <= api.TEnum; k++ {
		all = append(all, k)
	}
	for _, a := range wrong {
		for _, b := range all {
			if k, err := Usual(a, b); k != 0 || err != api.ErrKind {
				t.Errorf("Usual(%d, %d) = %d, %d, want 0, %d", a, b, k, err, api.ErrKind)
			}
			if k, err := Usual(b, a); k != 0 || err != api.ErrKind {
				t.Errorf("Usual(%d, %d) = %d, %d, want 0, %d", b, a, k, err, api.ErrKind)
			}
		}
	}
}

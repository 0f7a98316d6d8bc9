package conv

import (
	"slices"
	"testing"

	"mortise/api"
)

// TestP7_6Usual: the order does not matter, with itself a kind is promoted, and what comes is one of four kinds.
func TestP7_6Usual(t *testing.T) {
	four := []api.TypeKind{api.TInt, api.TUInt, api.TLong, api.TULong}
	for a := api.TBool; a <= api.TEnum; a++ {
		if k, err := Usual(a, a); k != Promote(a, -1) || err != api.OK {
			t.Errorf("Usual(%d, %d) = %d, %d", a, a, k, err)
		}
		for b := api.TBool; b <= api.TEnum; b++ {
			one, _ := Usual(a, b)
			two, _ := Usual(b, a)
			if one != two || !slices.Contains(four, one) {
				t.Errorf("Usual of %d and %d: %d, and %d the other way round", a, b, one, two)
			}
			if again, _ := Usual(one, one); again != one {
				t.Errorf("Usual(%d, %d) = %d", one, one, again)
			}
		}
	}
}

// TestP7_6AssignCast: what may be assigned may be cast, but structs and unions; each scalar may be assigned to itself.
func TestP7_6AssignCast(t *testing.T) {
	k := newKit(t)
	for a := range k.Len() {
		if k.Scalar(a) && Assign(k.Table, a, a) != api.OK {
			t.Errorf("%s may not be assigned to itself", k.name(a))
		}
		for b := range k.Len() {
			if k.class(a) != "s" && Assign(k.Table, a, b) == api.OK && Cast(k.Table, a, b) != api.OK {
				t.Errorf("%s may be assigned to %s, but not cast", k.name(b), k.name(a))
			}
		}
	}
}

// TestP7_6Unchanged: the calls leave a table as it is.
func TestP7_6Unchanged(t *testing.T) {
	k := newKit(t)
	before := k.Rows()
	for a := range k.Len() {
		for b := range k.Len() {
			for _, op := range signs() {
				Binary(k.Table, op, a, b)
			}
			Assign(k.Table, a, b)
			Cast(k.Table, a, b)
			Cond(k.Table, a, b)
		}
		for _, op := range []string{"+", "-", "~", "!"} {
			Unary(k.Table, op, a)
		}
	}
	if !slices.EqualFunc(before, k.Rows(), sameRow) {
		t.Error("the table was changed")
	}
}

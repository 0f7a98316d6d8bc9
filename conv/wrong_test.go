package conv

import (
	"testing"

	"mortise/api"
	"mortise/ctype"
)

// wantTwo asks that all calls with two types refuse them with an error, and answer nothing beside it.
func wantTwo(t *testing.T, c *ctype.Table, a, b int, want api.Errno) {
	t.Helper()
	for _, op := range append(signs(), "", "=", "~", "&&") {
		if o, err := Binary(c, op, a, b); o != (api.Oper{}) || err != want {
			t.Errorf("Binary(%q, %d, %d) = %v, %d, want zero, %d", op, a, b, o, err, want)
		}
	}
	if err := Assign(c, a, b); err != want {
		t.Errorf("Assign(%d, %d) = %d, want %d", a, b, err, want)
	}
	if err := Cast(c, a, b); err != want {
		t.Errorf("Cast(%d, %d) = %d, want %d", a, b, err, want)
	}
	if id, err := Cond(c, a, b); id != 0 || err != want {
		t.Errorf("Cond(%d, %d) = %d, %d, want 0, %d", a, b, id, err, want)
	}
}

// wantOne asks that Unary refuses a type with an error, whatever the sign.
func wantOne(t *testing.T, c *ctype.Table, a int, want api.Errno) {
	t.Helper()
	for _, op := range []string{"+", "-", "~", "!", "", "*", "=", "++"} {
		if id, err := Unary(c, op, a); id != 0 || err != want {
			t.Errorf("Unary(%q, %d) = %d, %d, want 0, %d", op, a, id, err, want)
		}
	}
}

// TestP7_2P7_3P7_4NoTable: a table that no call made is refused ahead of all else, and stays as it is.
func TestP7_2P7_3P7_4NoTable(t *testing.T) {
	zero := &ctype.Table{}
	for _, c := range []*ctype.Table{nil, zero} {
		for _, a := range []int{0, 7, 2, -1, 11, 1 << 40} {
			wantOne(t, c, a, api.ErrNil)
			for _, b := range []int{0, 7, 10, -1, 11, 1 << 40} {
				wantTwo(t, c, a, b, api.ErrNil)
			}
		}
	}
	if zero.Len() != 0 {
		t.Error("a zero table was changed")
	}
}

// TestP7_2P7_3P7_4NoType: numbers that are no type's are refused ahead of the operator, on either side.
func TestP7_2P7_3P7_4NoType(t *testing.T) {
	k := newKit(t)
	for _, a := range k.strangeIds() {
		wantOne(t, k.Table, a, api.ErrType)
		for _, name := range []string{"void", "int", "int *", "void *", "struct Pair", "struct Open", "int [3]", "_Bool"} {
			wantTwo(t, k.Table, a, k.id(name), api.ErrType)
			wantTwo(t, k.Table, k.id(name), a, api.ErrType)
		}
		for _, b := range k.strangeIds() {
			wantTwo(t, k.Table, a, b, api.ErrType)
		}
	}
	wantTwo(t, ctype.New(), 11, 0, api.ErrType)
	wantTwo(t, ctype.New(), 0, 11, api.ErrType)
	wantOne(t, ctype.New(), 11, api.ErrType)
}

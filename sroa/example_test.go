package sroa

import (
	"slices"
	"testing"

	"mortise/api"
)

// TestP17_1Example is the chapter's examples.
func TestP17_1Example(t *testing.T) {
	head, tail := "slot 4 4;addr t0 0 0;store t0 0 #5 4;load t1 t0 0 4;", "ret t1"
	for _, c := range []struct {
		between string
		want    []int
	}{
		{"", []int{0}},
		{"load t1 t0 2 2 signed;", nil},
		{"put t0;", nil},
	} {
		p := program(t, inMain(head+c.between+tail))
		if got := splits(t, p, 0); !slices.Equal(got, c.want) {
			t.Errorf("%q: %v, want %v", c.between, got, c.want)
		}
		ran(t, p)
	}
}

// TestP17_2Example: the first example, and what becomes of it, exit with 5; nothing of the slot is left.
func TestP17_2Example(t *testing.T) {
	p := program(t, inMain("slot 4 4;addr t0 0 0;store t0 0 #5 4;load t1 t0 0 4;ret t1"))
	if o := agrees(t, p, "", 4); o.Stop != api.StopExit || o.Code != 5 || o.Steps != 4 {
		t.Errorf("%+v", o)
	}
	for _, x := range ran(t, p).Funcs[0].Code {
		if x.Op == api.TacSlot || x.Op == api.TacLoad || x.Op == api.TacStore {
			t.Errorf("%+v is left", x)
		}
	}
}

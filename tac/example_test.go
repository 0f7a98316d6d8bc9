package tac

import (
	"slices"
	"testing"

	"mortise/api"
)

// small is the text of the chapter's first example.
const small = "func main 0 1 gives\nmov t0 #5\nret t0\nmain 0\n"

// TestP13_1Example is the chapter's first example.
func TestP13_1Example(t *testing.T) {
	p := api.TacProg{Funcs: []api.TacFunc{{Name: "main", Temps: 1, Gives: true, Code: []api.Ins{{Op: api.TacMov, A: num(5)}, ret(tmp(0))}}}}
	verdict(t, p, true, "the example")
	if s := written(t, p); s != small {
		t.Errorf("Print: %q", s)
	}
	if q := read(t, small); !same(p, q) {
		t.Errorf("Parse: %v", q)
	}
	p.Funcs[0].Code = p.Funcs[0].Code[:1]
	verdict(t, p, false, "without the last instruction")
	if s, err := Print(p); s != "" || err != api.ErrTac {
		t.Errorf("Print without the last instruction: %q, %d", s, err)
	}
	refused(t, "func main 0 1 gives\nmov t0 #5\nmain 0\n")
}

// TestP13_2Example is the chapter's second example.
func TestP13_2Example(t *testing.T) {
	if l := Reads(api.Ins{Op: api.TacBin, Bin: api.OpAdd, D: 1, A: tmp(0), B: tmp(0)}); !slices.Equal(l, []int{0, 0}) {
		t.Errorf("Reads: %v", l)
	}
	if d := Writes(api.Ins{Op: api.TacStore, D: -1, A: tmp(0), B: tmp(1), Width: 4}); d != -1 {
		t.Errorf("Writes: %d", d)
	}
	code := make([]api.Ins, 6)
	code[2] = branch(tmp(0), 5)
	if l := Next(code, 2); !slices.Equal(l, []int{3, 5}) {
		t.Errorf("Next: %v", l)
	}
}

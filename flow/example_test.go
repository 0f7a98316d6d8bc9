package flow

import (
	"testing"

	"mortise/api"
)

// TestP16_3Example is the chapter's first example.
func TestP16_3Example(t *testing.T) {
	f := code(mov(0, num(3)), api.Ins{Op: api.TacBin, Bin: api.OpSub, D: 0, A: tmp(0), B: num(1)}, branch(tmp(0), 1), ret(tmp(0)))
	f.Temps, f.Gives = 1, true
	a := answers(t, f)
	for what, ok := range map[string]bool{
		"Starts": same(a.Starts, []int{0, 1, 3}),
		"Reach":  same(a.Reach, []int{0, 1, 2, 3}),
		"Idom":   same(a.Idom, []int{-1, 0, 1, 2}),
		"Loops":  same(a.Heads, []int{1}) && same(a.Loops, [][]int{{1, 2}}),
		"Depth":  same(a.Depth, []int{0, 1, 1, 0}),
		"Live":   same(a.Ahead, [][]int{{}, {0}, {0}, {0}}) && same(a.Behind, [][]int{{0}, {0}, {0}, {}}),
	} {
		if !ok {
			t.Errorf("%s: %+v", what, a)
		}
	}
	agrees(t, f)
}

// TestP16_2Example is the chapter's second example.
func TestP16_2Example(t *testing.T) {
	f := api.TacFunc{Code: []api.Ins{jump(2), put(num(1)), exit(num(0))}}
	a := answers(t, f)
	if !same(a.Reach, []int{0, 2}) || !same(a.Idom, []int{-1, -1, 0}) || !same(a.Starts, []int{0, 1, 2}) {
		t.Errorf("%+v", a)
	}
	agrees(t, f)
}

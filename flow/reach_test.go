package flow

import (
	"testing"

	"mortise/api"
)

// none is an operand that is none.
var none = api.Arg{}

// TestP16_2Starts: 0, where jumps and branches lead, and what stands behind one of these, a TacRet or a TacExit; each once, rising, whether it is reached or not.
func TestP16_2Starts(t *testing.T) {
	call := api.Ins{Op: api.TacCall, D: -1, N: 2}
	for _, s := range []struct {
		f    api.TacFunc
		want []int
	}{
		{code(ret(none)), []int{0}},
		{code(put(num(1))), []int{0}},
		{code(jump(0)), []int{0}},
		{code(put(num(1)), put(num(1)), put(num(1))), []int{0}},
		{code(put(num(1)), call, put(num(1)), ret(none)), []int{0}},
		{code(ret(none), put(num(1)), put(num(1))), []int{0, 1}},
		{code(put(num(1)), exit(num(0)), put(num(1)), ret(none)), []int{0, 2}},
		{code(put(num(1)), jump(2), put(num(1)), ret(none)), []int{0, 2}},
		{code(put(num(1)), jump(4), put(num(1)), put(num(1)), ret(none)), []int{0, 2, 4}},
		{code(put(num(1)), branch(num(1), 0), put(num(1)), ret(none)), []int{0, 2}},
		{code(put(num(1)), branch(num(1), 1), ret(none)), []int{0, 1, 2}},
		{code(put(num(1)), put(num(1)), branch(num(1), 1)), []int{0, 1}},
		{code(jump(3), jump(2), jump(1), jump(3)), []int{0, 1, 2, 3}},
		{code(ret(none), ret(none), exit(num(1)), exit(num(1))), []int{0, 1, 2, 3}},
		{code(jump(4), put(num(1)), put(num(1)), put(num(1)), jump(4), put(num(1))), []int{0, 1, 4, 5}},
	} {
		if l, err := Starts(s.f); err != api.OK || !same(l, s.want) {
			t.Errorf("%v, %d; want %v: %s", l, err, s.want, shown(s.f))
		}
		agrees(t, s.f)
	}
}

// TestP16_2StartsOfAll: of each Op what stands behind it is a start just where the chapter says so, and N matters of jumps and branches alone.
func TestP16_2StartsOfAll(t *testing.T) {
	for op := api.TacOp(-1); op <= api.TacExit+2; op++ {
		want := []int{0}
		switch op {
		case api.TacJump, api.TacBranch:
			want = []int{0, 2, 4}
		case api.TacRet, api.TacExit:
			want = []int{0, 2}
		}
		f := code(put(num(1)), api.Ins{Op: op, D: -1, N: 4}, put(num(1)), put(num(1)), put(num(1)), put(num(1)))
		if l, err := Starts(f); err != api.OK || !same(l, want) {
			t.Errorf("of %d: %v, %d; want %v", op, l, err, want)
		}
		agrees(t, f)
	}
}

// TestP16_2Reach: 0 and all to which a way leads from it.
func TestP16_2Reach(t *testing.T) {
	for _, s := range []struct {
		f    api.TacFunc
		want []int
	}{
		{code(ret(none), put(num(1))), []int{0}},
		{code(exit(num(1)), put(num(1))), []int{0}},
		{code(put(num(1)), put(num(1))), []int{0, 1}},
		{code(jump(0), put(num(1))), []int{0}},
		{code(jump(1), put(num(1))), []int{0, 1}},
		{code(branch(num(0), 2), ret(none), ret(none), ret(none)), []int{0, 1, 2}},
		{code(branch(num(0), 0), ret(none), jump(1)), []int{0, 1}},
		{code(jump(2), ret(none), jump(1), jump(2)), []int{0, 1, 2}},
		{code(jump(3), jump(2), jump(1), branch(num(1), 3), ret(none), jump(1)), []int{0, 3, 4}},
		{code(put(num(1)), branch(num(1), 4), jump(1), jump(5), put(num(1)), branch(num(1), 0)), []int{0, 1, 2, 4, 5}},
	} {
		if l, err := Reach(s.f); err != api.OK || !same(l, s.want) {
			t.Errorf("%v, %d; want %v: %s", l, err, s.want, shown(s.f))
		}
		agrees(t, s.f)
	}
}

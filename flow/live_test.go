package flow

import (
	"slices"
	"testing"

	"mortise/api"
)

// asks asks what is asked for ahead of the instructions of a function, and behind them.
func asks(t *testing.T, name string, f api.TacFunc, ahead, behind [][]int) {
	t.Helper()
	a, b, err := Live(f)
	if err != api.OK || !same(a, ahead) || !same(b, behind) {
		t.Errorf("%s: %v and %v, %d; want %v and %v", name, a, b, err, ahead, behind)
	}
	agrees(t, f)
}

// TestP16_4Rows: what is asked for where no way parts.
func TestP16_4Rows(t *testing.T) {
	asks(t, "nothing", code(ret(none)), [][]int{{}}, [][]int{{}})
	asks(t, "from the first on", code(ret(tmp(2))), [][]int{{2}}, [][]int{{}})
	asks(t, "written and read", code(mov(0, num(1)), put(num(2)), ret(tmp(0))), [][]int{{}, {0}, {0}}, [][]int{{0}, {0}, {}})
	asks(t, "written and not read", code(mov(0, num(1)), ret(none)), [][]int{{}, {}}, [][]int{{}, {}})
	asks(t, "read and written at once", code(add(1, tmp(1), tmp(0)), ret(tmp(1))), [][]int{{0, 1}, {1}}, [][]int{{1}, {}})
	asks(t, "moved to itself", code(mov(1, tmp(1)), ret(none)), [][]int{{1}, {}}, [][]int{{}, {}})
	asks(t, "written twice", code(mov(0, num(1)), mov(0, num(2)), ret(tmp(0))), [][]int{{}, {}, {0}}, [][]int{{}, {0}, {}})
	asks(t, "read twice", code(mov(0, num(1)), put(tmp(0)), put(tmp(0)), ret(none)), [][]int{{}, {0}, {0}, {}}, [][]int{{0}, {0}, {}, {}})
	asks(t, "past the end", code(put(tmp(1)), put(tmp(0))), [][]int{{0, 1}, {0}}, [][]int{{0}, {}})
	asks(t, "behind a ret", code(ret(none), put(tmp(0)), exit(tmp(1)), put(tmp(2))), [][]int{{}, {0, 1}, {1}, {2}}, [][]int{{}, {1}, {}, {}})
	asks(t, "not reached, into what is", code(jump(2), put(tmp(1)), ret(tmp(0))), [][]int{{0}, {0, 1}, {0}}, [][]int{{0}, {0}, {}})
	asks(t, "rising", code(put(tmp(2)), put(tmp(0)), put(tmp(1))), [][]int{{0, 1, 2}, {0, 1}, {1}}, [][]int{{0, 1}, {1}, {}})
}

// TestP16_4Ways: what is asked for where ways part and meet.
func TestP16_4Ways(t *testing.T) {
	asks(t, "on one of two ways", code(branch(tmp(0), 2), ret(tmp(1)), ret(tmp(2))), [][]int{{0, 1, 2}, {1}, {2}}, [][]int{{1, 2}, {}, {}})
	asks(t, "written on one of two ways", code(branch(num(1), 2), mov(0, num(1)), ret(tmp(0))), [][]int{{0}, {}, {0}}, [][]int{{0}, {0}, {}})
	asks(t, "round a loop", code(mov(0, num(3)), mov(1, num(0)), add(1, tmp(1), tmp(0)), branch(tmp(1), 2), ret(num(0))), [][]int{{}, {0}, {0, 1}, {0, 1}, {}}, [][]int{{0}, {0, 1}, {0, 1}, {0, 1}, {}})
	asks(t, "in a loop that it is written in first", code(mov(0, num(3)), put(tmp(0)), branch(num(1), 0), ret(none)), [][]int{{}, {0}, {}, {}}, [][]int{{0}, {}, {}, {}})
	asks(t, "in a loop that it is written in last", code(put(tmp(0)), mov(0, num(3)), branch(num(1), 0), ret(none)), [][]int{{0}, {}, {0}, {}}, [][]int{{}, {0}, {0}, {}})
	asks(t, "a loop without an end", code(put(tmp(0)), jump(0)), [][]int{{0}, {0}}, [][]int{{0}, {0}})
	asks(t, "to itself", code(branch(tmp(0), 0), ret(none)), [][]int{{0}, {}}, [][]int{{0}, {}})
	asks(t, "round without a reading", code(mov(0, num(1)), jump(1)), [][]int{{}, {}}, [][]int{{}, {}})
	asks(t, "to 0", code(mov(0, tmp(1)), branch(tmp(0), 0), ret(none)), [][]int{{1}, {0, 1}, {}}, [][]int{{0, 1}, {1}, {}})
}

// TestP16_4Places: each operand asks, and each Op that writes ends the asking.
func TestP16_4Places(t *testing.T) {
	for op := api.TacOp(-1); op <= api.TacExit+2; op++ {
		x := api.Ins{Op: op, D: 0, N: 1, A: tmp(5), B: tmp(3), Args: []api.Arg{tmp(9), num(1), tmp(7), tmp(5)}}
		f := api.TacFunc{Temps: 10, Code: []api.Ins{x, put(tmp(0)), ret(none)}}
		ahead, behind := []int{0, 3, 5, 7, 9}, []int{0}
		switch op {
		case api.TacMov, api.TacBin, api.TacSlot, api.TacGlobal, api.TacLoad, api.TacCall, api.TacGet:
			ahead = ahead[1:]
		case api.TacRet, api.TacExit:
			ahead, behind = ahead[1:], nil
		}
		a, b, err := Live(f)
		if err != api.OK || !same(a[0], ahead) || !same(b[0], behind) {
			t.Errorf("of %d: %v and %v, %d; want %v and %v", op, a[0], b[0], err, ahead, behind)
		}
		agrees(t, f)
	}
}

// TestP16_4Many: temporaries on both sides of words' ends, and the last one that there may be.
func TestP16_4Many(t *testing.T) {
	f := api.TacFunc{Temps: api.MaxTemps, Code: []api.Ins{put(num(0)), jump(0)}}
	want := []int{0, 1, 31, 32, 63, 64, 65, 127, 128, 2047, 4094, 4095}
	for _, n := range slices.Backward(want) {
		f.Code[0].Args = append(f.Code[0].Args, tmp(n))
	}
	asks(t, "many", f, [][]int{want, want}, [][]int{want, want})
}

package tac

import (
	"math"
	"slices"
	"testing"

	"mortise/api"
)

// everyOp are the operations, and numbers that are none.
func everyOp() []api.TacOp {
	list := []api.TacOp{0, -1, 15, 16, 257, 1<<32 + 1, math.MaxInt, math.MinInt}
	for op := api.TacMov; op <= api.TacExit; op++ {
		list = append(list, op)
	}
	return list
}

// TestP13_2Reads asks for what is read, of instructions that are right.
func TestP13_2Reads(t *testing.T) {
	for _, c := range []struct {
		x    api.Ins
		want []int
	}{
		{api.Ins{Op: api.TacMov, D: 4, A: tmp(3)}, []int{3}},
		{api.Ins{Op: api.TacMov, D: 4, A: num(3)}, nil},
		{api.Ins{Op: api.TacBin, Bin: api.OpSub, D: 4, A: tmp(9), B: tmp(2)}, []int{9, 2}},
		{api.Ins{Op: api.TacBin, Bin: api.OpSub, D: 4, A: num(9), B: tmp(2)}, []int{2}},
		{api.Ins{Op: api.TacBin, Bin: api.OpSub, D: 4, A: tmp(4), B: num(2)}, []int{4}},
		{api.Ins{Op: api.TacSlot, D: 4, N: 1, Off: 2}, nil},
		{api.Ins{Op: api.TacGlobal, D: 4, N: 1, Off: 2}, nil},
		{api.Ins{Op: api.TacLoad, D: 4, A: tmp(4095), Width: 4}, []int{4095}},
		{api.Ins{Op: api.TacStore, D: -1, A: tmp(5), B: tmp(1), Width: 4}, []int{5, 1}},
		{api.Ins{Op: api.TacCopy, D: -1, A: tmp(1), B: tmp(5), Off: 4, Width: 4}, []int{1, 5}},
		{api.Ins{Op: api.TacCall, D: -1, Args: []api.Arg{tmp(3), num(8), tmp(1), tmp(3), tmp(0)}}, []int{3, 1, 3, 0}},
		{api.Ins{Op: api.TacCall, D: 7}, nil},
		{ret(tmp(6)), []int{6}}, {ret(num(6)), nil}, {ret(api.Arg{}), nil}, {jump(3), nil}, {branch(tmp(8), 2), []int{8}}, {put(tmp(0)), []int{0}},
		{api.Ins{Op: api.TacGet, D: 3}, nil}, {exit(tmp(2)), []int{2}},
	} {
		if got := Reads(c.x); !slices.Equal(got, c.want) {
			t.Errorf("Reads of %v: %v, want %v", c.x, got, c.want)
		}
	}
}

// TestP13_2ReadsAny asks for what is read, whatever the operation is and has.
func TestP13_2ReadsAny(t *testing.T) {
	args := []api.Arg{{}, {N: 7}, num(2), tmp(0), tmp(9), tmp(math.MaxUint32), {Kind: -1, N: 1}, {Kind: 3, N: 1}, {Kind: 257, N: 1}, {Kind: 1<<32 + 1, N: 1}}
	for _, op := range everyOp() {
		for _, a := range args {
			for _, b := range args {
				x := api.Ins{Op: op, D: 5, N: 3, A: a, B: b, Args: args}
				var want []int
				for _, y := range slices.Concat([]api.Arg{a, b}, args) {
					if y.Kind == api.ArgTemp {
						want = append(want, int(y.N))
					}
				}
				if got := Reads(x); !slices.Equal(got, want) {
					t.Errorf("Reads of %v: %v, want %v", x, got, want)
				}
			}
		}
	}
	if l := Reads(api.Ins{A: tmp(math.MaxUint32)}); !slices.Equal(l, []int{math.MaxUint32}) {
		t.Errorf("Reads of the greatest number: %v", l)
	}
}

// TestP13_2Writes asks for what is written, at every operation and every D.
func TestP13_2Writes(t *testing.T) {
	writing := []api.TacOp{api.TacMov, api.TacBin, api.TacSlot, api.TacGlobal, api.TacLoad, api.TacCall, api.TacGet}
	for _, op := range everyOp() {
		for _, d := range append(far(), -1, 0, 1, 7, 4095, 4096) {
			want := -1
			if d >= 0 && slices.Contains(writing, op) {
				want = d
			}
			for _, x := range []api.Ins{{Op: op, D: d}, {Op: op, D: d, A: tmp(8), B: tmp(9), N: 3, Off: -7, Width: 3, Signed: true, Bin: 99, Args: []api.Arg{tmp(1)}}} {
				if got := Writes(x); got != want {
					t.Errorf("Writes of %v: %d, want %d", x, got, want)
				}
			}
		}
	}
}

// TestP13_2Next asks where each operation goes on, at every place of code of five instructions.
func TestP13_2Next(t *testing.T) {
	const count = 5
	for _, op := range everyOp() {
		for _, n := range append(far(), -1, 0, 1, 2, 3, 4, 5, 6) {
			for i := range count {
				code := make([]api.Ins, count)
				code[i] = api.Ins{Op: op, D: -1, N: n}
				var want []int
				for place := range count {
					behind := place == i+1 && op != api.TacRet && op != api.TacExit && op != api.TacJump
					there := place == n && (op == api.TacJump || op == api.TacBranch)
					if behind || there {
						want = append(want, place)
					}
				}
				if got := Next(code, i); !slices.Equal(got, want) {
					t.Errorf("Next of operation %d to %d at %d: %v, want %v", op, n, i, got, want)
				}
			}
		}
	}
}

// TestP13_2NextEdges has the cases that the chapter tells of.
func TestP13_2NextEdges(t *testing.T) {
	none := api.Arg{}
	code := []api.Ins{put(num(1)), branch(tmp(0), 2), branch(tmp(0), 2), branch(tmp(0), 0), jump(4), jump(3), jump(8), jump(-1), branch(tmp(0), 99), branch(tmp(0), -1), ret(none), exit(num(0)), {}, branch(num(0), 1)}
	for i, want := range [][]int{{1}, {2}, {2, 3}, {0, 4}, {4}, {3}, {8}, nil, {9}, {10}, nil, nil, {13}, {1}} {
		if got := Next(code, i); !slices.Equal(got, want) {
			t.Errorf("Next at %d: %v, want %v", i, got, want)
		}
	}
	for _, i := range append(far(), -1, len(code), len(code)+1) {
		if got := Next(code, i); len(got) != 0 {
			t.Errorf("Next at %d: %v, want none", i, got)
		}
		if got := Next(nil, i); len(got) != 0 {
			t.Errorf("Next of no code at %d: %v, want none", i, got)
		}
	}
	if got := Next(nil, 0); len(got) != 0 {
		t.Errorf("Next of no code: %v", got)
	}
	if got := Next(code[:3:9], 2); !slices.Equal(got, []int{2}) {
		t.Errorf("Next with code behind the end: %v", got)
	}
	if got := Next(code[:1:9], 0); len(got) != 0 {
		t.Errorf("Next with code behind the end: %v", got)
	}
}

// TestP13_2Kept: what is handed in is not changed, and what is answered is new memory.
func TestP13_2Kept(t *testing.T) {
	x := api.Ins{Op: api.TacCall, D: 1, A: tmp(1), B: tmp(2), Args: append(make([]api.Arg, 0, 9), tmp(3), num(4))}
	before := x
	before.Args = slices.Clone(x.Args)
	l := Reads(x)
	for i := range l {
		l[i] = 99
	}
	if !sameIns(x, before) || !slices.Equal(Reads(x), []int{1, 2, 3}) {
		t.Errorf("Reads changed %v to %v", before, x)
	}
	code := []api.Ins{branch(tmp(0), 2), jump(0), exit(num(0))}
	n := Next(code, 0)
	n[0], n[1] = 7, 8
	if got := Next(code, 0); !slices.Equal(got, []int{1, 2}) || !sameIns(code[0], branch(tmp(0), 2)) {
		t.Errorf("Next: %v, %v", got, code)
	}
}

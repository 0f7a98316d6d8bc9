package flow

import (
	"math"
	"reflect"
	"slices"
	"testing"

	"mortise/api"
)

// far are numbers that are beyond every range; some lie within one, if taken modulo 2^8, 2^16 or 2^32.
func far() []int {
	return []int{math.MinInt, math.MinInt + 1, -1 << 32, 1 - 1<<32, -1 << 31, -65536, -256, -2, -1, 65536, 65537, 1<<31 - 1, 1 << 31, 1<<32 - 1, 1 << 32, 1<<32 + 1, math.MaxInt}
}

// long is a function of so many instructions, the last of which ends it.
func long(n int) api.TacFunc {
	f := api.TacFunc{Code: slices.Repeat([]api.Ins{put(num(1))}, n)}
	if n > 0 {
		f.Code[n-1] = ret(api.Arg{})
	}
	return f
}

// TestP16_1Count: a function has 1 to MaxCode instructions.
func TestP16_1Count(t *testing.T) {
	refused(t, api.TacFunc{}, "nothing")
	refused(t, api.TacFunc{Name: "f", Temps: 1, Code: []api.Ins{}}, "no instruction")
	for _, n := range []int{1, 2, 63, 64, 65, api.MaxCode - 1, api.MaxCode} {
		a := answers(t, long(n))
		if len(a.Reach) != n || len(a.Idom) != n || len(a.Depth) != n || len(a.Ahead) != n || len(a.Behind) != n {
			t.Errorf("of %d instructions: %d are reached, and there are %d, %d, %d, %d rows", n, len(a.Reach), len(a.Idom), len(a.Depth), len(a.Ahead), len(a.Behind))
		}
		if n > 0 && (a.Idom[0] != -1 || a.Idom[n-1] != n-2 || !same(a.Starts, []int{0})) {
			t.Errorf("of %d instructions: %d, %d, %v", n, a.Idom[0], a.Idom[n-1], a.Starts)
		}
	}
	refused(t, long(api.MaxCode+1), "one too many")
	refused(t, long(2*api.MaxCode), "twice as many")
}

// TestP16_1Temps: there are 0 to MaxTemps temporaries.
func TestP16_1Temps(t *testing.T) {
	f := long(2)
	for _, n := range []int{0, 1, 63, 64, 65, api.MaxTemps - 1, api.MaxTemps} {
		f.Temps = n
		taken(t, f, "temporaries", n)
	}
	for _, n := range append(far(), api.MaxTemps+1) {
		f.Temps = n
		refused(t, f, "temporaries", n)
	}
}

// TestP16_1Places: every temporary that an instruction reads or writes is one of those that there are, whatever the instruction is.
func TestP16_1Places(t *testing.T) {
	places := map[string]func(x *api.Ins, n int){
		"A":             func(x *api.Ins, n int) { x.A = tmp(n) },
		"B":             func(x *api.Ins, n int) { x.B = tmp(n) },
		"an argument":   func(x *api.Ins, n int) { x.Args = []api.Arg{tmp(n)} },
		"the last one":  func(x *api.Ins, n int) { x.Args = []api.Arg{num(9), {}, tmp(0), tmp(n)} },
		"one of twelve": func(x *api.Ins, n int) { x.Args = append(make([]api.Arg, 11), tmp(n)) },
	}
	for op := api.TacOp(-1); op <= api.TacExit+2; op++ {
		for name, lay := range places {
			for _, temps := range []int{1, 2, 64, api.MaxTemps} {
				f := api.TacFunc{Temps: temps, Code: []api.Ins{{Op: op, D: -1}, ret(api.Arg{})}}
				lay(&f.Code[0], temps-1)
				taken(t, f, op, name, "temporary", temps-1, "of", temps)
				agrees(t, f)
				for _, n := range []int{temps, temps + 1, api.MaxTemps, math.MaxInt32, math.MaxInt32 + 1, math.MaxUint32} {
					lay(&f.Code[0], n)
					refused(t, f, op, name, "temporary", n, "of", temps)
				}
			}
		}
	}
}

// TestP16_1Written: so is the one that an instruction writes, where it writes one; what D is else does not matter.
func TestP16_1Written(t *testing.T) {
	writes := []api.TacOp{api.TacMov, api.TacBin, api.TacSlot, api.TacGlobal, api.TacLoad, api.TacCall, api.TacGet}
	for op := api.TacOp(-1); op <= api.TacExit+2; op++ {
		f := api.TacFunc{Temps: 3, Code: []api.Ins{{Op: op}, ret(api.Arg{})}}
		for _, d := range []int{math.MinInt, -1 << 32, -2, -1, 0, 1, 2} {
			f.Code[0].D = d
			taken(t, f, op, "D", d)
		}
		for _, d := range []int{3, 4, 4096, 1 << 32, 1<<32 + 1, math.MaxInt} {
			f.Code[0].D = d
			if slices.Contains(writes, op) {
				refused(t, f, op, "D", d)
			} else {
				taken(t, f, op, "D", d)
			}
		}
	}
	f := api.TacFunc{Code: []api.Ins{{Op: api.TacGet}, ret(api.Arg{})}}
	refused(t, f, "temporary 0 of none")
	f.Code[0].D = -1
	taken(t, f, "no temporary of none")
}

// TestP16_1Numbers: operands of other kinds than temporaries may have any number, and ArgKinds that are not known are none.
func TestP16_1Numbers(t *testing.T) {
	for _, kind := range []api.ArgKind{-1, api.ArgNone, api.ArgConst, 3, math.MaxInt} {
		x := api.Arg{Kind: kind, N: math.MaxUint32}
		f := api.TacFunc{Code: []api.Ins{{Op: api.TacPut, D: -1, A: x, B: x, Args: []api.Arg{x, x}}, ret(x)}}
		if a := agrees(t, f); len(slices.Concat(a.Ahead...)) != 0 {
			t.Errorf("of kind %d: %v", kind, a.Ahead)
		}
	}
}

// TestP16_1Leads: N of jumps and branches is an instruction's number; of others it may be anything.
func TestP16_1Leads(t *testing.T) {
	for op := api.TacOp(-1); op <= api.TacExit+2; op++ {
		for _, n := range []int{1, 2, 5, 100} {
			for at := range n {
				if at > 5 && at < n-1 {
					continue
				}
				f := long(n)
				f.Code[at] = api.Ins{Op: op, D: -1}
				for _, to := range []int{0, n / 2, n - 1} {
					f.Code[at].N = to
					taken(t, f, op, "at", at, "of", n, "to", to)
				}
				for _, to := range append(far(), n, n+1) {
					f.Code[at].N = to
					if leads := op == api.TacJump || op == api.TacBranch; leads {
						refused(t, f, op, "at", at, "of", n, "to", to)
					} else {
						taken(t, f, op, "at", at, "of", n, "to", to)
					}
				}
			}
		}
	}
}

// TestP16_1NothingElse: functions that layer 13 refuses have graphs, too.
func TestP16_1NothingElse(t *testing.T) {
	for _, f := range []api.TacFunc{
		{Code: []api.Ins{{}}},
		{Code: []api.Ins{{Op: math.MaxInt, D: math.MaxInt, N: -1, Off: -1, Width: 77, Signed: true}}},
		{Params: -1, Code: []api.Ins{put(num(1))}},
		{Params: 9, Temps: 1, Gives: true, Slots: []api.Slot{{Size: -1, Align: 3}}, Code: []api.Ins{ret(api.Arg{})}},
		{Name: "no name", Slots: make([]api.Slot, 257), Temps: 2, Code: []api.Ins{{Op: api.TacCall, D: 1, N: -9, Args: []api.Arg{tmp(0)}}}},
		{Temps: 1, Code: []api.Ins{{Op: api.TacJump, D: 77, A: tmp(0), B: tmp(0), Args: []api.Arg{tmp(0)}}}},
		{Temps: 1, Code: []api.Ins{{Op: api.TacBranch, D: 77}}},
		{Temps: 1, Code: []api.Ins{{Op: api.TacMov, D: -1}, {Op: api.TacMov, D: 0, A: api.Arg{Kind: 9}}}},
	} {
		agrees(t, f)
	}
}

// TestP16_1Kept: what is handed in is not changed, answers are new memory, and the same calls answer the same.
func TestP16_1Kept(t *testing.T) {
	eachGrown(16, 300, func(f api.TacFunc) {
		before := copied(f)
		a, b := answers(t, f), answers(t, f)
		if !reflect.DeepEqual(copied(f), before) {
			t.Fatalf("changed: %s", shown(before))
		}
		if !same(a, b) {
			t.Fatalf("%v and then %v of %s", a, b, shown(f))
		}
		for i, list := range everyList(a) {
			for k := range list {
				list[k] = -7 - i
			}
			for j, other := range everyList(a) {
				if j > i && slices.Contains(other[:cap(other)], -7-i) {
					t.Fatalf("lists %d and %d of an answer share memory: %s", i, j, shown(f))
				}
			}
		}
		if !reflect.DeepEqual(copied(f), before) || !same(answers(t, f), b) {
			t.Fatalf("answers share memory with what is handed in: %s", shown(before))
		}
	})
}

// everyList has all lists of numbers of an answer.
func everyList(a answer) [][]int {
	return slices.Concat([][]int{a.Starts, a.Reach, a.Idom, a.Heads, a.Depth}, a.Loops, a.Ahead, a.Behind)
}

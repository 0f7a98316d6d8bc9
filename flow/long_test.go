package flow

import (
	"math/rand"
	"slices"
	"testing"

	"mortise/api"
)

// whole is a function of MaxCode instructions; it has each from what makes it by its number.
func whole(temps int, of func(i int) api.Ins) api.TacFunc {
	f := api.TacFunc{Temps: temps, Code: make([]api.Ins, api.MaxCode)}
	for i := range f.Code {
		f.Code[i] = of(i)
	}
	return f
}

// last is the number of the last instruction of such a function.
const last = api.MaxCode - 1

// TestP16_3Chains: long chains of jumps, forth and back.
func TestP16_3Chains(t *testing.T) {
	back := whole(1, func(i int) api.Ins { return jump((i + last) % api.MaxCode) })
	a := answers(t, back)
	if len(a.Starts) != api.MaxCode || len(a.Reach) != api.MaxCode || !same(a.Heads, []int{0}) || len(a.Loops[0]) != api.MaxCode {
		t.Errorf("back: %d starts, %d reached, loops of %v", len(a.Starts), len(a.Reach), a.Heads)
	}
	if a.Idom[0] != -1 || a.Idom[last] != 0 || a.Idom[1] != 2 || slices.Max(a.Depth) != 1 || slices.Min(a.Depth) != 1 {
		t.Errorf("back: %d, %d, %d", a.Idom[0], a.Idom[last], a.Idom[1])
	}
	back.Code[0] = branch(tmp(0), last)
	a = answers(t, back)
	if slices.ContainsFunc(a.Ahead, func(l []int) bool { return len(l) != 1 }) {
		t.Errorf("back: not all is asked for everywhere")
	}
	// Each leads on and back to the one ahead of it: all that is behind one is in its loop.
	const rungs = 2000
	a = answers(t, whole(0, func(i int) api.Ins {
		if i <= rungs {
			return branch(num(1), max(i-1, 0))
		}
		return put(num(1))
	}))
	if len(a.Heads) != rungs || len(a.Loops[0]) != rungs+1 || a.Idom[rungs] != rungs-1 || a.Depth[rungs] != rungs || a.Depth[last] != 0 {
		t.Errorf("a ladder: %d loops, the first of %d; %d, %d", len(a.Heads), len(a.Loops[0]), a.Idom[rungs], a.Depth[rungs])
	}
}

// TestP16_3Branches: long rows of branches to one instruction, ahead of it and behind it.
func TestP16_3Branches(t *testing.T) {
	a := answers(t, whole(0, func(i int) api.Ins { return branch(num(1), last) }))
	if a.Idom[last] != 0 && a.Idom[last-1] != last-2 || !same(a.Heads, []int{last}) || !same(a.Loops, [][]int{{last}}) {
		t.Errorf("to the end: %d, %v", a.Idom[last], a.Heads)
	}
	a = answers(t, whole(0, func(i int) api.Ins { return branch(num(1), 0) }))
	if a.Idom[last] != last-1 || !same(a.Heads, []int{0}) || len(a.Loops[0]) != api.MaxCode {
		t.Errorf("to the beginning: %d, %v", a.Idom[last], a.Heads)
	}
	half := api.MaxCode / 2
	a = answers(t, whole(0, func(i int) api.Ins { return branch(num(1), half) }))
	if a.Idom[half] != 0 || a.Idom[half-1] != half-2 || !same(a.Heads, []int{half}) || len(a.Loops[0]) != api.MaxCode-half {
		t.Errorf("to the middle: %d, %v", a.Idom[half], a.Heads)
	}
}

// TestP16_3Nested: loops in loops, a thousand deep; and a thousand behind one another that are short.
func TestP16_3Nested(t *testing.T) {
	const deep = 1000
	f := whole(0, func(i int) api.Ins {
		if i >= deep && i < 2*deep {
			return branch(num(1), 2*deep-1-i)
		}
		return put(num(1))
	})
	a := answers(t, f)
	if len(a.Heads) != deep || a.Depth[0] != 1 || a.Depth[deep-1] != deep || a.Depth[deep] != deep || a.Depth[2*deep-1] != 1 || a.Depth[2*deep] != 0 {
		t.Errorf("in one another: %d loops", len(a.Heads))
	}
	for k, loop := range a.Loops {
		if a.Heads[k] != k || len(loop) != 2*(deep-k) || loop[0] != k || loop[len(loop)-1] != 2*deep-1-k {
			t.Fatalf("loop %d of %d: %d", k, a.Heads[k], len(loop))
		}
	}
	a = answers(t, whole(0, func(i int) api.Ins {
		if i%16 == 15 {
			return branch(num(1), i-15)
		}
		return put(num(1))
	}))
	if len(a.Heads) != api.MaxCode/16 || slices.Max(a.Depth) != 1 || slices.Min(a.Depth) != 1 {
		t.Errorf("behind one another: %d loops", len(a.Heads))
	}
}

// TestP16_4Long: hundreds of temporaries that are asked for everywhere, and thousands that are asked for in one place each.
func TestP16_4Long(t *testing.T) {
	const many = 300
	a := answers(t, whole(many, func(i int) api.Ins { return branch(tmp(i%many), (i+last)%api.MaxCode) }))
	for i := range a.Ahead {
		if len(a.Ahead[i]) != many || len(a.Behind[i]) != many || a.Ahead[i][many-1] != many-1 {
			t.Fatalf("at %d %d are asked for, and %d behind it", i, len(a.Ahead[i]), len(a.Behind[i]))
		}
	}
	a = answers(t, whole(api.MaxTemps, func(i int) api.Ins {
		if i%4 == 0 {
			return mov(i/4, num(1))
		}
		return put(tmp(i / 4))
	}))
	for i := range a.Ahead {
		ahead, behind := []int{i / 4}, []int{i / 4}
		if i%4 == 0 {
			ahead = nil
		} else if i%4 == 3 {
			behind = nil
		}
		if !slices.Equal(a.Ahead[i], ahead) || !slices.Equal(a.Behind[i], behind) {
			t.Fatalf("at %d: %v, %v", i, a.Ahead[i], a.Behind[i])
		}
	}
}

// TestP16_5Chance: whole functions by chance: all calls end, and hold to one another.
func TestP16_5Chance(t *testing.T) {
	g := grower{rand.New(rand.NewSource(9))}
	for _, lead := range []func(i, n int) int{g.anywhere, g.near, g.forth, g.few} {
		a := answers(t, whole(50, func(i int) api.Ins {
			if g.Intn(3) == 0 {
				return branch(tmp(g.Intn(50)), lead(i, api.MaxCode))
			}
			return add(g.Intn(50), tmp(g.Intn(50)), num(1))
		}))
		depth := make([]int, api.MaxCode)
		for _, loop := range a.Loops {
			for _, i := range loop {
				depth[i]++
			}
		}
		if !slices.Equal(depth, a.Depth) {
			t.Errorf("Depth is not what Loops tells")
		}
		reached := 0
		for i, d := range a.Idom {
			if i == 0 || d >= 0 {
				reached++
			}
		}
		if reached != len(a.Reach) {
			t.Errorf("%d have a dominator, %d are reached", reached, len(a.Reach))
		}
	}
}

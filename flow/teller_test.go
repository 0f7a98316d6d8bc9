package flow

import (
	"slices"

	"mortise/api"
	"mortise/tac"
)

// told is what the chapter says of a function, its words followed one by one, however slowly.
func told(f api.TacFunc) answer {
	w := teller{f: f, n: len(f.Code)}
	var a answer
	a.Starts, a.Reach = w.starts(), w.those(func(i int) bool { return w.way(0, i, nowhere) })
	for i := range f.Code {
		a.Idom = append(a.Idom, w.idom(i))
	}
	a.Depth = make([]int, w.n)
	for b := range f.Code {
		if loop := w.loop(b); loop != nil {
			a.Heads, a.Loops = append(a.Heads, b), append(a.Loops, loop)
			for _, i := range loop {
				a.Depth[i]++
			}
		}
	}
	a.Ahead, a.Behind = w.live()
	return a
}

// teller tells of a function.
type teller struct {
	f    api.TacFunc
	n    int
	ways map[int][]bool // for each instruction that ways must not go through: where ways lead, n times n
}

// those are the instructions of which something is true, rising.
func (w *teller) those(is func(int) bool) []int {
	var list []int
	for i := range w.n {
		if is(i) {
			list = append(list, i)
		}
	}
	return list
}

// starts: 0, each N of a TacJump or TacBranch, and each instruction behind one of these, a TacRet or a TacExit.
func (w *teller) starts() []int {
	return w.those(func(i int) bool {
		if i == 0 || slices.Contains([]api.TacOp{api.TacJump, api.TacBranch, api.TacRet, api.TacExit}, w.f.Code[i-1].Op) {
			return true
		}
		return slices.ContainsFunc(w.f.Code, func(x api.Ins) bool {
			return x.N == i && (x.Op == api.TacJump || x.Op == api.TacBranch)
		})
	})
}

// edge tells whether an edge leads from a to b.
func (w *teller) edge(a, b int) bool { return slices.Contains(tac.Next(w.f.Code, a), b) }

// way tells whether a way leads from a to b that does not have an instruction on it.
func (w *teller) way(a, b, without int) bool {
	if w.ways == nil {
		w.ways = map[int][]bool{}
	}
	all, ok := w.ways[without]
	if !ok {
		all = w.allWays(without)
		w.ways[without] = all
	}
	return all[a*w.n+b]
}

// allWays tells where ways lead: from each instruction to itself, and on along edges.
func (w *teller) allWays(without int) []bool {
	all := make([]bool, w.n*w.n)
	for a := range w.n {
		var on func(b int)
		on = func(b int) {
			if b != without && !all[a*w.n+b] {
				all[a*w.n+b] = true
				for _, c := range tac.Next(w.f.Code, b) {
					on(c)
				}
			}
		}
		if a != without {
			on(a)
		}
	}
	return all
}

// dominates: b is reached, and every way from 0 to b has a on it.
func (w *teller) dominates(a, b int) bool { return w.way(0, b, nowhere) && !w.way(0, b, a) }

// idom: the instruction that dominates i, is not i, and is dominated by all others that do so; or -1.
func (w *teller) idom(i int) int {
	above := w.those(func(a int) bool { return a != i && w.dominates(a, i) })
	for _, a := range above {
		if !slices.ContainsFunc(above, func(b int) bool { return b != a && !w.dominates(b, a) }) {
			return a
		}
	}
	return -1
}

// loop: b, and all from which a way that does not go through b leads to an instruction whose edge leads back to b; nil, if none does.
func (w *teller) loop(b int) []int {
	back := w.those(func(a int) bool { return w.edge(a, b) && w.dominates(b, a) })
	if len(back) == 0 {
		return nil
	}
	return w.those(func(i int) bool {
		return i == b || slices.ContainsFunc(back, func(a int) bool { return w.way(i, a, b) })
	})
}

// live: the least sets of which holds what the chapter says: from nothing on they grow as long as something must be in them that is not.
func (w *teller) live() (ahead, behind [][]int) {
	before, after := make([]map[int]int, w.n), make([]map[int]int, w.n)
	for i := range w.n {
		before[i], after[i] = map[int]int{}, map[int]int{}
	}
	for grown := true; grown; {
		grown = false
		into := func(set map[int]int, t int) {
			if set[t] == 0 {
				set[t], grown = 1, true
			}
		}
		for i, x := range w.f.Code {
			for _, n := range tac.Next(w.f.Code, i) {
				for t := range before[n] {
					into(after[i], t)
				}
			}
			for _, t := range tac.Reads(x) {
				into(before[i], t)
			}
			for t := range after[i] {
				if t != tac.Writes(x) {
					into(before[i], t)
				}
			}
		}
	}
	for i := range w.n {
		ahead, behind = append(ahead, keys(before[i])), append(behind, keys(after[i]))
	}
	return ahead, behind
}

// keys are the keys of a map, rising.
func keys(m map[int]int) []int {
	var list []int
	for k := range m {
		list = append(list, k)
	}
	slices.Sort(list)
	return list
}

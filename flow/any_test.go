package flow

import (
	"slices"
	"testing"

	"mortise/api"
)

// TestP16_3Any: grown functions have the answers of the slow telling.
func TestP16_3Any(t *testing.T) {
	loops, deep, lost, odd := 0, 0, 0, 0
	eachGrown(1, 8000, func(f api.TacFunc) {
		a := agrees(t, f)
		loops += len(a.Heads)
		if slices.Max(a.Depth) > 2 {
			deep++
		}
		if len(a.Reach) < len(f.Code) {
			lost++
		}
		for _, loop := range a.Loops {
			if slices.ContainsFunc(loop, func(i int) bool { return !slices.Contains(a.Reach, i) }) {
				odd++
			}
		}
	})
	if loops < 5000 || deep < 100 || lost < 3000 || odd < 200 {
		t.Errorf("%d loops, %d functions of deep ones, %d of which not all is reached, %d loops into which comes what is not: too few", loops, deep, lost, odd)
	}
}

// TestP16_3Every: all functions of up to four instructions have them, as far as ways go.
func TestP16_3Every(t *testing.T) {
	for n := 1; n <= 4; n++ {
		kinds := []api.Ins{ret(api.Arg{}), put(num(1))}
		for to := range n {
			kinds = append(kinds, jump(to), branch(num(1), to))
		}
		count := 1
		for range n {
			count *= len(kinds)
		}
		for k := range count {
			f := api.TacFunc{}
			for range n {
				f.Code = append(f.Code, kinds[k%len(kinds)])
				k /= len(kinds)
			}
			agrees(t, f)
		}
	}
}

// TestP16_4Every: all functions of three instructions that use two temporaries have them, as far as temporaries go.
func TestP16_4Every(t *testing.T) {
	kinds := []api.Ins{
		mov(0, num(1)), mov(0, tmp(1)), mov(1, tmp(0)), mov(1, tmp(1)), put(tmp(0)), put(tmp(1)), ret(tmp(1)), exit(tmp(0)),
		jump(0), jump(1), jump(2), branch(tmp(0), 0), branch(tmp(1), 1), branch(tmp(0), 2), branch(num(1), 1),
		{Op: api.TacCall, D: 0, Args: []api.Arg{tmp(0), tmp(1)}}, {Op: api.TacStore, D: 0, A: tmp(0), B: tmp(1)},
	}
	for _, a := range kinds {
		for _, b := range kinds {
			for _, c := range kinds {
				agrees(t, api.TacFunc{Temps: 2, Code: []api.Ins{a, b, c}})
			}
		}
	}
}

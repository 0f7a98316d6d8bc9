package flow

import (
	"bytes"
	"math/rand"
	"slices"
	"testing"

	"mortise/api"
	"mortise/tacrun"
)

// TestP16_5Dominance: what dominates what dominates a third one dominates it; of two that dominate a third one one dominates the other; what is reached of a loop is dominated by its first instruction.
func TestP16_5Dominance(t *testing.T) {
	chains := 0
	eachGrown(5, 1500, func(f api.TacFunc) {
		a := answers(t, f)
		w := teller{f: f, n: len(f.Code)}
		for i := range f.Code {
			// The way up by nearest dominators has each dominator once, and no other instruction: so the first two follow.
			var chain []int
			for d := a.Idom[i]; d >= 0; d = a.Idom[d] {
				chain = append(chain, d)
			}
			slices.Sort(chain)
			if want := w.those(func(d int) bool { return d != i && w.dominates(d, i) }); !slices.Equal(chain, want) {
				t.Fatalf("%d is dominated by %v, not by %v: %s", i, want, chain, shown(f))
			}
			chains += len(chain)
		}
		for k, head := range a.Heads {
			for _, i := range a.Loops[k] {
				if slices.Contains(a.Reach, i) && !w.dominates(head, i) {
					t.Fatalf("%d of loop %d is not dominated: %s", i, head, shown(f))
				}
			}
		}
	})
	if chains < 10000 {
		t.Errorf("only %d dominators", chains)
	}
}

// runner grows a program that reckons with numbers, and mostly ends.
func (g grower) runner() api.TacProg {
	p := api.TacProg{Main: 0}
	for i := range 2 {
		f := api.TacFunc{Name: one(g, "a", "b") + string(rune('0'+i)), Params: 2 * i, Temps: 6, Gives: true}
		for d := range 6 {
			if d >= f.Params && g.Intn(3) > 0 {
				f.Code = append(f.Code, mov(d, num(uint32(g.Intn(4)))))
			}
		}
		for n := len(f.Code) + 3 + g.Intn(10); len(f.Code) < n; {
			f.Code = append(f.Code, g.step(n+1, i))
		}
		f.Code = append(f.Code, ret(g.value()))
		p.Funcs = append(p.Funcs, f)
	}
	return p
}

// value is a temporary or a small number.
func (g grower) value() api.Arg {
	if g.Intn(4) > 0 {
		return tmp(g.Intn(6))
	}
	return num(uint32(g.Intn(4)))
}

// step is an instruction of a runner's function i, which has n.
func (g grower) step(n, i int) api.Ins {
	switch g.Intn(10) {
	case 0:
		return put(g.value())
	case 1:
		return api.Ins{Op: api.TacGet, D: g.Intn(6)}
	case 2:
		return branch(g.value(), g.Intn(n))
	case 3:
		return jump(n/2 + g.Intn(n-n/2))
	case 4:
		if i == 0 {
			return api.Ins{Op: api.TacCall, D: g.Intn(6), N: 1, Args: []api.Arg{g.value(), g.value()}}
		}
	case 5:
		return mov(g.Intn(6), g.value())
	case 6:
		return api.Ins{Op: api.TacBin, Bin: one(g, api.OpDivU, api.OpRemS), D: g.Intn(6), A: g.value(), B: g.value()}
	}
	return api.Ins{Op: api.TacBin, Bin: one(g, api.OpAdd, api.OpSub, api.OpLtS, api.OpEq), D: g.Intn(6), A: g.value(), B: g.value()}
}

// withNumber is a program in which a number is put into a temporary of a function ahead of an instruction.
func withNumber(p api.TacProg, of, at, temp int, v uint32) api.TacProg {
	f := copied(p.Funcs[of])
	f.Code = slices.Insert(f.Code, at, mov(temp, num(v)))
	for i, x := range f.Code {
		if (x.Op == api.TacJump || x.Op == api.TacBranch) && x.N > at {
			f.Code[i].N++
		}
	}
	p.Funcs = slices.Clone(p.Funcs)
	p.Funcs[of] = f
	return p
}

// TestP16_5NotAskedFor: a number put into what is not asked for, ahead of the first instruction (or of any other), turns no run that ends by StopExit or StopZero; one put into what is asked for does, often.
func TestP16_5NotAskedFor(t *testing.T) {
	g := grower{rand.New(rand.NewSource(55))}
	const fuel = 2000
	first, later, turned, ends := 0, 0, 0, map[api.Stop]int{}
	for range 4500 {
		p, input := g.runner(), []byte{byte(g.Intn(3)), byte(g.Intn(3)), 7}
		want, err := tacrun.Run(p, input, fuel)
		if err != api.OK {
			t.Fatalf("error %d", err)
		}
		ends[want.Stop]++
		if want.Stop != api.StopExit && want.Stop != api.StopZero {
			continue
		}
		for of, f := range p.Funcs {
			ahead := answers(t, f).Ahead
			for at := range f.Code {
				temp := g.Intn(6)
				got, err := tacrun.Run(withNumber(p, of, at, temp, 77), input, 2*fuel)
				if err != api.OK {
					t.Fatalf("error %d", err)
				}
				alike := got.Stop == want.Stop && got.Code == want.Code && bytes.Equal(got.Out, want.Out)
				switch asked := slices.Contains(ahead[at], temp); {
				case asked && !alike:
					turned++
				case !asked && !alike:
					t.Fatalf("t%d = 77 ahead of %d turns %+v to %+v: %s", temp, at, want, got, shown(f))
				case !asked && at == 0:
					first++
				case !asked:
					later++
				}
			}
		}
	}
	if first < 1000 || later < 8000 || turned < 500 || ends[api.StopExit] < 500 || ends[api.StopZero] < 200 {
		t.Errorf("%d numbers first, %d later, %d that turn a run; ends %v: too few", first, later, turned, ends)
	}
}

package flow

import (
	"math/rand"

	"mortise/api"
)

// grower makes functions by chance.
type grower struct{ *rand.Rand }

// one is one of some things.
func one[T any](g grower, list ...T) T { return list[g.Intn(len(list))] }

// eachGrown hands on so many grown functions.
func eachGrown(seed int64, n int, do func(f api.TacFunc)) {
	g := grower{rand.New(rand.NewSource(seed))}
	for range n {
		do(g.function())
	}
}

// function grows a function that has a graph, whether it may be or not.
func (g grower) function() api.TacFunc {
	f := api.TacFunc{Temps: one(g, 0, 1, 2, 3, 5, 70, api.MaxTemps), Params: g.Intn(4)}
	n := 1 + g.Intn(one(g, 3, 8, 20, 40))
	if g.Intn(100) == 0 {
		n += 100
	}
	lead := one(g, g.anywhere, g.near, g.back, g.forth, g.few)
	odds := one(g, 2, 3, 6)
	for i := range n {
		x := api.Ins{Op: api.TacOp(g.Intn(17) - 1), D: -1 - g.Intn(2)}
		if g.Intn(odds) == 0 {
			x.Op = one(g, api.TacJump, api.TacBranch, api.TacBranch)
		} else if x.Op == api.TacRet || x.Op == api.TacExit {
			x.Op = one(g, x.Op, api.TacMov, api.TacBin)
		}
		x.N = g.Intn(40) - 10
		if x.Op == api.TacJump || x.Op == api.TacBranch {
			x.N = lead(i, n)
		}
		if f.Temps > 0 && g.Intn(3) > 0 {
			x.D = g.Intn(f.Temps)
		}
		x.A, x.B = g.operand(f), g.operand(f)
		if g.Intn(4) == 0 {
			for range g.Intn(10) {
				x.Args = append(x.Args, g.operand(f))
			}
		}
		f.Code = append(f.Code, x)
	}
	return f
}

// operand is any operand; a temporary is one of a few, mostly, so that what is asked for was written somewhere.
func (g grower) operand(f api.TacFunc) api.Arg {
	if f.Temps == 0 || g.Intn(4) > 0 {
		return api.Arg{Kind: api.ArgKind(one(g, -1, 0, 2, 3)), N: g.Uint32() % 5000}
	}
	return tmp(g.Intn(min(f.Temps, one(g, 2, 4, api.MaxTemps))))
}

// anywhere, near, back, forth and few say where jumps of a function lead: instruction i of n.
func (g grower) anywhere(_, n int) int { return g.Intn(n) }

func (g grower) near(i, n int) int { return min(max(i+g.Intn(7)-3, 0), n-1) }

func (g grower) back(i, _ int) int { return g.Intn(i + 1) }

func (g grower) forth(i, n int) int { return min(i+g.Intn(4), n-1) }

func (g grower) few(_, n int) int { return min(one(g, 0, 1, n/2, n-1), n-1) }

package model

import (
	"math"
	"math/rand"
	"testing"

	"mortise/api"
)

// ends asks that a run of what layer 10 did not answer ends somehow, the same each time, and changes nothing.
func ends(t *testing.T, p api.Prog, fuel int) api.Outcome {
	t.Helper()
	o := mustRun(t, p, []byte("ab"), fuel)
	if again := mustRun(t, p, []byte("ab"), fuel); !same(o, again) {
		t.Errorf("at first %v, then %v", o, again)
	}
	return o
}

// bare is a program whose main has that block.
func bare(t *testing.T) func(body ...api.Tree) api.Prog {
	t.Helper()
	p := programOf(t, "int g[2]; int f(int x) { return x; } int main(void) { int x; return 0; }")
	return func(body ...api.Tree) api.Prog {
		q := copiedProg(p)
		q.Funcs[q.Main].Body = api.Tree{Kind: api.TsBlock, Sub: body}
		return q
	}
}

// TestR1NoProgram: programs that are hardly any.
func TestR1NoProgram(t *testing.T) {
	whole := programOf(t, "int x, *p = &x; struct S { int a; } s; struct S f(struct S s) { return s; } int main(void) { s = f(s); return *p; }")
	ends(t, api.Prog{}, 100)
	for _, n := range []int{-1, 2, 3, math.MaxInt, math.MinInt} {
		p := copiedProg(whole)
		p.Main = n
		ends(t, p, 100)
	}
	for _, change := range []func(p *api.Prog){
		func(p *api.Prog) { p.Main = 0 },
		func(p *api.Prog) { p.Types = nil },
		func(p *api.Prog) { p.Types = p.Types[:11] },
		func(p *api.Prog) { p.Types[7], p.Types[8] = p.Types[8], p.Types[7] },
		func(p *api.Prog) { p.Types = append(p.Types, make([]api.TypeRow, 600)...) },
		func(p *api.Prog) { p.Globals = nil },
		func(p *api.Prog) { p.Globals = make([]api.Global, 10000) },
		func(p *api.Prog) { p.Globals[0].Type = 0 },
		func(p *api.Prog) { p.Globals[0].Type = -1 },
		func(p *api.Prog) { p.Globals[0].Type = math.MaxInt },
		func(p *api.Prog) { p.Globals[0].Data.Bytes = nil },
		func(p *api.Prog) { p.Globals[0].Data.Bytes = make([]byte, 5000) },
		func(p *api.Prog) { p.Globals[0].Data.Bytes = []byte{1, 2, 3, 4, 5, 6} },
		func(p *api.Prog) { p.Globals[1].Data.Relocs[0].Off = 1 },
		func(p *api.Prog) { p.Globals[1].Data.Relocs[0].Off = -4 },
		func(p *api.Prog) { p.Globals[1].Data.Relocs[0].Off = math.MinInt },
		func(p *api.Prog) { p.Globals[1].Data.Relocs[0].Global = -1 },
		func(p *api.Prog) { p.Globals[1].Data.Relocs[0].Global = 3 },
		func(p *api.Prog) { p.Globals[1].Data.Relocs[0].Global = math.MaxInt },
		func(p *api.Prog) { p.Globals[1].Data.Relocs[0].Add = math.MaxInt },
		func(p *api.Prog) { p.Funcs = nil },
		func(p *api.Prog) { p.Funcs[0].Locals = nil },
		func(p *api.Prog) { p.Funcs[0].Locals = make([]int, 3000) },
		func(p *api.Prog) { p.Funcs[0].Locals = []int{0} },
		func(p *api.Prog) { p.Funcs[0].Locals = []int{-5} },
		func(p *api.Prog) { p.Funcs[0].Locals = []int{7} },
		func(p *api.Prog) { p.Funcs[0].Params = 100 },
		func(p *api.Prog) { p.Funcs[0].Params = -1 },
		func(p *api.Prog) { p.Funcs[0].Body = api.Tree{} },
		func(p *api.Prog) { p.Funcs[1].Body = api.Tree{} },
		func(p *api.Prog) { p.Funcs[1].Body.Kind = api.TsBreak },
		func(p *api.Prog) { p.Funcs[1].Body.Kind = api.TsContinue },
		func(p *api.Prog) { p.Funcs[1].Params = 3 },
	} {
		p := copiedProg(whole)
		change(&p)
		for _, fuel := range []int{1, 2, 10, 100, 10000} {
			ends(t, p, fuel)
		}
	}
}

// TestR1NoNode: each kind of node and statement, and numbers that are none, with any parts.
func TestR1NoNode(t *testing.T) {
	with := bare(t)
	one := api.Tree{Kind: api.TxConst, Num: 1, Type: 7}
	local := api.Tree{Kind: api.TxLocal, Type: 7}
	parts := [][]api.Tree{nil, {one}, {local}, {local, one}, {one, local}, {one, one, one, one}, {local, local, local, local}, {{}}, {{}, {}, {}, {}}, {{Kind: api.TxAddr, Type: 11, Sub: []api.Tree{local}}, one}}
	var kinds []api.TreeKind
	for k := api.TreeKind(-2); k < 100; k++ {
		kinds = append(kinds, k)
	}
	kinds = append(kinds, math.MaxInt, math.MinInt, 1<<32+api.TxConst)
	for _, k := range kinds {
		for _, sub := range parts {
			for _, num := range []int{0, 1, -1, 3, 2048, 2048*5 + 64*31 + 63, -2048, math.MaxInt, math.MinInt} {
				for _, id := range []int{0, 7, 2, 11, 500, -1} {
					x := api.Tree{Kind: k, Num: num, Type: id, Sub: sub}
					ends(t, with(x), 200)
					ends(t, with(api.Tree{Kind: api.TsFresh}, api.Tree{Kind: api.TsExpr, Sub: []api.Tree{x}}), 200)
					if num == 0 {
						ends(t, with(api.Tree{Kind: api.TsZero}, api.Tree{Kind: api.TsReturn, Sub: []api.Tree{{Kind: api.TxRead, Type: id, Sub: []api.Tree{x}}}}), 200)
					}
				}
			}
		}
	}
}

// TestR1Turned: programs of texts in which parts are turned into others end, whatever they come to.
func TestR1Turned(t *testing.T) {
	stops := map[api.Stop]int{}
	eachGrown(7, 400, func(g *grower, text string, input []byte) {
		p := copiedProg(programOf(t, text))
		var nodes []*api.Tree
		for i := range p.Funcs {
			everyNode(&p.Funcs[i].Body, func(x *api.Tree) { nodes = append(nodes, x) })
		}
		for range 1 + g.Intn(6) {
			turn(g.Rand, &p, nodes)
		}
		stops[ends(t, p, 1+g.Intn(grownFuel)).Stop]++
	})
	if len(stops) < 4 {
		t.Errorf("only %v", stops)
	}
}

// turn turns something of a program.
func turn(r *rand.Rand, p *api.Prog, nodes []*api.Tree) {
	x, y := nodes[r.Intn(len(nodes))], nodes[r.Intn(len(nodes))]
	switch r.Intn(9) {
	case 0:
		x.Kind = y.Kind
	case 1:
		x.Num = []int{y.Num, -1, x.Num + 1, 1 << 20, -1 << 40, math.MaxInt}[r.Intn(6)]
	case 2:
		x.Type = []int{y.Type, -1, 0, x.Type + 1, 1000}[r.Intn(5)]
	case 3:
		if len(x.Sub) > 0 {
			x.Sub = x.Sub[:len(x.Sub)-1]
		}
	case 4:
		x.Sub = append(x.Sub[:len(x.Sub):len(x.Sub)], api.Tree{Kind: y.Kind, Num: y.Num, Type: y.Type})
	case 5, 6:
		*x = copied(*y)
	case 7:
		f := &p.Funcs[r.Intn(len(p.Funcs))]
		if len(f.Locals) > 0 {
			f.Locals[r.Intn(len(f.Locals))] = r.Intn(len(p.Types)+2) - 1
		}
	case 8:
		p.Globals[r.Intn(len(p.Globals))].Type = r.Intn(len(p.Types))
	}
}

// TestR1Deep: trees that are very deep, or have no end, end.
func TestR1Deep(t *testing.T) {
	with := bare(t)
	for _, k := range []api.TreeKind{api.TxNot, api.TxSet, api.TxCall, api.TxLit} {
		circle := make([]api.Tree, 3)
		for i := range circle {
			circle[i] = api.Tree{Kind: k, Type: 7, Sub: circle}
		}
		ends(t, with(api.Tree{Kind: api.TsFresh}, api.Tree{Kind: api.TsExpr, Sub: circle}), api.MaxFuel)
	}
	for _, k := range []api.TreeKind{api.TsBlock, api.TsDo} {
		circle := make([]api.Tree, 4)
		for i := range circle {
			circle[i] = api.Tree{Kind: k, Sub: circle}
		}
		ends(t, with(circle...), api.MaxFuel)
	}
	x := api.Tree{Kind: api.TxConst, Num: 1, Type: 7}
	for range 1 << 16 {
		x = api.Tree{Kind: api.TxNot, Type: 7, Sub: []api.Tree{x}}
	}
	p := with(api.Tree{Kind: api.TsReturn, Sub: []api.Tree{x}})
	if o := ends(t, p, api.MaxFuel); o.Stop != api.StopExit || o.Code != 1 {
		t.Errorf("%v", o)
	}
	p.Funcs[0].Body = api.Tree{Kind: api.TsExpr, Sub: []api.Tree{{Kind: api.TxCall, Num: 1}}}
	ends(t, p, api.MaxFuel)
}

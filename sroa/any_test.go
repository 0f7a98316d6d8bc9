package sroa

import (
	"math/rand"
	"testing"

	"mortise/api"
)

// TestP17_2Any: what becomes of grown programs runs as they do, on whatever input, and with whatever fuel.
func TestP17_2Any(t *testing.T) {
	stops := map[api.Stop]int{}
	split, stays, both := 0, 0, 0
	eachGrown(1, 6000, func(g *grower, p api.TacProg) {
		input := make([]byte, g.Intn(8))
		g.Read(input)
		o := agrees(t, p, string(input), 20000)
		stops[o.Stop]++
		q := ran(t, p)
		for _, fuel := range []int{o.Steps, o.Steps - 1, 1 + g.Intn(o.Steps)} {
			if _, why := follows(p, q, input, max(fuel, 1)); why != "" {
				t.Fatalf("with fuel %d: %s\nof %s\nbecomes %s", fuel, why, shown(p), shown(q))
			}
		}
		if o.Stop != api.StopExit && o.Stop != api.StopZero {
			return
		}
		for i, f := range p.Funcs {
			n := len(splits(t, p, i))
			split += n
			stays += len(f.Slots) - n
			if n > 0 && n < len(f.Slots) {
				both++
			}
		}
	})
	if split < 10000 || stays < 4000 || both < 2000 || stops[api.StopExit] < 4000 || stops[api.StopZero] < 150 || stops[api.StopUndef] < 400 {
		t.Errorf("%d slots split and %d do not, in %d functions some; stops %v: too few", split, stays, both, stops)
	}
}

// TestP17_1Any: of functions of whatever instructions those slots split that the slow telling says.
func TestP17_1Any(t *testing.T) {
	g := rand.New(rand.NewSource(2))
	split, stays := 0, 0
	for range 20000 {
		f := scrambled(g)
		p := api.TacProg{Funcs: []api.TacFunc{{Name: "main", Temps: 1, Code: []api.Ins{{Op: api.TacRet, D: -1}}}, f}}
		agrees(t, p, "", 10)
		n := len(splits(t, p, 1))
		split += n
		stays += len(f.Slots) - n
		p.Funcs[1].Params, p.Main = 0, 1
		agrees(t, p, "", 40)
	}
	if split < 5000 || stays < 5000 {
		t.Errorf("%d slots split, %d do not: too few", split, stays)
	}
}

// scrambled is a function of instructions that stand anyhow, most of which have to do with slots.
func scrambled(g *rand.Rand) api.TacFunc {
	f := api.TacFunc{Name: "f", Params: g.Intn(3), Temps: 3 + g.Intn(6)}
	for range 1 + g.Intn(3) {
		f.Slots = append(f.Slots, api.Slot{Size: 1 + g.Intn(8), Align: 1 << g.Intn(3)})
	}
	n := 2 + g.Intn(8)
	for range n - 1 {
		x := api.Ins{Op: api.TacLoad, D: g.Intn(f.Temps), A: tmp(g.Intn(f.Temps)), Off: g.Intn(9) - 3, Width: 1 << g.Intn(3)}
		switch g.Intn(10) {
		case 0, 1, 2, 3:
			s := g.Intn(len(f.Slots))
			x = api.Ins{Op: api.TacSlot, D: g.Intn(f.Temps), N: s, Off: g.Intn(f.Slots[s].Size + 1)}
		case 4, 5:
			x.Op, x.D, x.B = api.TacStore, -1, num(g.Uint32())
			if g.Intn(4) == 0 {
				x.B = tmp(g.Intn(f.Temps))
			}
		case 6:
			x.Signed = x.Width < 4
		case 7:
			x = api.Ins{Op: api.TacBranch, D: -1, A: num(g.Uint32() % 2), N: g.Intn(n)}
		case 8:
			x = api.Ins{Op: api.TacMov, D: g.Intn(f.Temps), A: num(g.Uint32())}
		}
		f.Code = append(f.Code, x)
	}
	f.Code = append(f.Code, api.Ins{Op: api.TacRet, D: -1})
	return f
}

package model

import (
	"math/rand"
	"testing"

	"mortise/api"
)

// grownFuel is the fuel with which grown texts run.
const grownFuel = 3000

// eachGrown grows so many texts with inputs, the later ones of each six with ever more that may go wrong.
func eachGrown(seed int64, n int, do func(g *grower, text string, input []byte)) {
	g := &grower{Rand: rand.New(rand.NewSource(seed))}
	for i := range n {
		g.wild = []int{0, 0, 100, 30, 10, 3}[i%6]
		input := make([]byte, g.Intn(12))
		g.Read(input)
		do(g, g.unit(), input)
	}
}

// TestP12_3Any: grown texts run as the second telling of the chapter says, with enough fuel and with less; and they come to all that a program can do.
func TestP12_3Any(t *testing.T) {
	stops, visited := map[api.Stop]int{}, map[api.TreeKind]int{}
	eachGrown(12, 900, func(g *grower, text string, input []byte) {
		p := programOf(t, text)
		w := newTeller(p, input, grownFuel)
		want := w.all()
		for k, n := range w.visited {
			visited[k] += n
		}
		stops[want.Stop]++
		if got, err := Run(p, input, grownFuel); !same(got, want) || err != api.OK {
			t.Fatalf("%s\non %v: %v, want %v", text, input, got, want)
		}
		fuel := 1 + g.Intn(want.Steps)
		want = tell(p, input, fuel)
		if got, err := Run(p, input, fuel); !same(got, want) || err != api.OK {
			t.Fatalf("%s\non %v by %d: %v, want %v", text, input, fuel, got, want)
		}
	})
	for s := api.StopExit; s <= api.StopDeep; s++ {
		if stops[s] < 10 {
			t.Errorf("only %d runs end by stop %d", stops[s], s)
		}
	}
	for k := api.TsBlock; k <= api.TxVoid; k++ {
		if least := 50; visited[k] < least && k != api.TxExit && (k <= api.TsZero || k >= api.TxConst) {
			t.Errorf("only %d nodes of kind %d are done", visited[k], k)
		}
	}
}

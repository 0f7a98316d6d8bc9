package lower

import (
	"math/rand"
	"testing"

	"mortise/api"
	"mortise/model"
)

// grownFuel is the fuel with which grown texts run on C's machine.
const grownFuel = 6000

// eachGrown grows so many texts with inputs, the later ones of each six with ever more that may go wrong.
func eachGrown(seed int64, n int, do func(g *grower, text string, input []byte)) {
	g := &grower{Rand: rand.New(rand.NewSource(seed))}
	for i := range n {
		g.wild = []int{0, 0, 100, 30, 10, 3}[i%6]
		input := make([]byte, g.Intn(12))
		g.Read(input)
		do(g, g.unit(), input)
	}
}

// TestP15_3Any: the code of grown texts runs as C's machine says, with whatever input.
func TestP15_3Any(t *testing.T) {
	stops := map[api.Stop]int{}
	eachGrown(15, 900, func(g *grower, text string, input []byte) {
		prog, p := programOf(t, text), codeOf(t, text)
		for range 3 {
			want, _ := model.Run(prog, input, grownFuel)
			if why := follows(p, input, want); why != "" {
				t.Fatalf("%s\non %v: %s, want stop %d, code %d, out %q", text, input, why, want.Stop, want.Code, want.Out)
			}
			stops[want.Stop]++
			g.Read(input)
		}
	})
	for s := api.StopExit; s <= api.StopDeep; s++ {
		if stops[s] < 30 {
			t.Errorf("only %d runs end by stop %d", stops[s], s)
		}
	}
}

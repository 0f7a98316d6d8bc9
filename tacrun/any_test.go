package tacrun

import (
	"math/rand"
	"testing"

	"mortise/api"
	"mortise/tac"
)

// grownFuel is the fuel with which grown programs run.
const grownFuel = 3000

// eachGrown grows so many programs with inputs, the later ones of each six with ever more that may go wrong.
func eachGrown(t *testing.T, seed int64, n int, do func(g *grower, p api.TacProg, input []byte)) {
	t.Helper()
	g := &grower{Rand: rand.New(rand.NewSource(seed))}
	for i := range n {
		g.wild = []int{0, 0, 60, 25, 10, 3}[i%6]
		input := make([]byte, g.Intn(8))
		g.Read(input)
		p := g.program()
		if tac.Check(p) != api.OK {
			t.Fatalf("a grown program may not be: %v", p)
		}
		do(g, p, input)
	}
}

// TestP14_2Any: grown programs run as the second telling of the chapter says, with enough fuel and with less; and they come to all that a program can do.
func TestP14_2Any(t *testing.T) {
	stops, done := map[api.Stop]int{}, map[api.TacOp]int{}
	eachGrown(t, 14, 6000, func(g *grower, p api.TacProg, input []byte) {
		w := newTeller(p, input, grownFuel)
		want := w.all()
		for op, n := range w.done {
			done[op] += n
		}
		stops[want.Stop]++
		agrees(t, p, string(input), grownFuel)
		agrees(t, p, string(input), 1+g.Intn(want.Steps))
	})
	for s := api.StopExit; s <= api.StopDeep; s++ {
		if stops[s] < 50 {
			t.Errorf("only %d runs end by stop %d", stops[s], s)
		}
	}
	for op := api.TacMov; op <= api.TacExit; op++ {
		if done[op] < 500 {
			t.Errorf("only %d instructions %d are done", done[op], op)
		}
	}
}

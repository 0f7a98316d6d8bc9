package sroa

import (
	"slices"
	"testing"

	"mortise/api"
)

// TestP17_3Again: of what Run answers, Splits tells of no slot of which it told ahead, and what becomes of it runs the same, once more.
func TestP17_3Again(t *testing.T) {
	split, stays := 0, 0
	eachGrown(3, 1500, func(g *grower, p api.TacProg) {
		q := ran(t, p)
		for i := range p.Funcs {
			ahead, behind := splits(t, p, i), splits(t, q, i)
			split += len(ahead)
			stays += len(p.Funcs[i].Slots) - len(ahead)
			for _, s := range behind {
				if slices.Contains(ahead, s) {
					t.Fatalf("slot %d of function %d of %s\nand of %s", s, i, shown(p), shown(q))
				}
			}
		}
		o := agrees(t, p, "xyz", 20000)
		if o.Stop != api.StopExit && o.Stop != api.StopZero {
			return
		}
		again := agrees(t, q, "xyz", limit(o.Steps))
		if again.Stop != o.Stop || again.Code != o.Code || !slices.Equal(again.Out, o.Out) {
			t.Fatalf("%+v and then %+v of %s", o, again, shown(p))
		}
	})
	if split < 3000 || stays < 1000 {
		t.Errorf("%d slots split, %d do not: too few", split, stays)
	}
}

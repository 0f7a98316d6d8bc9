package sroa

import (
	"fmt"
	"strings"
	"testing"

	"mortise/api"
	"mortise/tacrun"
)

// lasting is a program whose run takes so many steps, a third of them loads that are signed.
func lasting(t *testing.T, steps int) api.TacProg {
	t.Helper()
	rounds := (steps - 4) / 3
	s := "slot 4 4;addr t0 0 0;store t0 0 #200 1;"
	for range steps - 4 - 3*rounds {
		s += "put #65;"
	}
	loop := strings.Count(s, ";") - 1
	s += fmt.Sprintf("mov t1 #%d;load t2 t0 0 1 signed;sub t1 t1 #1;branch t1 %d;exit t2", rounds, loop+1)
	return program(t, inMain(s))
}

// TestP17_2Fuel: an answer ends within the fuel of 4 n + 1000 of a run of n steps; where that is above MaxFuel, it may have no fuel left.
func TestP17_2Fuel(t *testing.T) {
	const most = (api.MaxFuel - 1000) / 4 // the last n for which 4 n + 1000 is not above MaxFuel
	for _, n := range []int{7, 8, 9, 10, 100, 1000, 10001, most - 1, most, most + 1, 2 * most, api.MaxFuel - 1, api.MaxFuel} {
		p := lasting(t, n)
		q := ran(t, p)
		o, why := follows(p, q, nil, n)
		if why != "" || o.Stop != api.StopExit || o.Code != -56 || o.Steps != n {
			t.Errorf("%d steps: stop %d, code %d, %d steps; %s", n, o.Stop, o.Code, o.Steps, why)
		}
		if o, _ := tacrun.Run(p, nil, max(n-1, 1)); o.Stop != api.StopFuel {
			t.Errorf("with fuel for %d steps: stop %d", n-1, o.Stop)
		}
		if n <= most {
			if o, _ := tacrun.Run(q, nil, limit(n)); o.Stop != api.StopExit {
				t.Errorf("%d steps: the answer's stop is %d, though %d is not above MaxFuel", n, o.Stop, 4*n+1000)
			}
		}
	}
}

// TestP17_2Straight: so it is where all is loads that are signed, as far as MaxCode reaches.
func TestP17_2Straight(t *testing.T) {
	for _, accesses := range []int{1, 100, (api.MaxCode - 5) / 3} {
		p := api.TacProg{Funcs: []api.TacFunc{filled(3, 1, accesses, 0, false)}}
		q := ran(t, p)
		if o, why := follows(p, q, nil, api.MaxCode); why != "" || o.Stop != api.StopExit {
			t.Errorf("%d accesses: stop %d; %s", accesses, o.Stop, why)
		}
	}
}

package sroa

import (
	"slices"
	"testing"

	"mortise/api"
)

// filled is a function of two slots, of which the second one escapes or not, with so many pieces and accesses of the first one and so many instructions; the accesses are bytes, stored, and then loaded, signed.
func filled(temps, pieces, accesses, code int, escapes bool) api.TacFunc {
	f := api.TacFunc{Name: "main", Gives: true, Temps: temps, Slots: []api.Slot{{Size: api.MaxSize, Align: 4}, {Size: 4, Align: 4}}}
	add := func(x api.Ins) { f.Code = append(f.Code, x) }
	add(api.Ins{Op: api.TacSlot, D: 0, N: 0, Off: 7})
	add(api.Ins{Op: api.TacSlot, D: 1, N: 1})
	add(api.Ins{Op: api.TacStore, D: -1, A: tmp(1), B: num(9), Width: 4})
	add(api.Ins{Op: api.TacMov, D: 2, A: num(0)})
	if escapes {
		f.Code[3].A = tmp(1)
	}
	for i := range accesses {
		x := api.Ins{Op: api.TacStore, D: -1, A: tmp(0), B: num(uint32(i * 37)), Off: i%pieces - 7, Width: 1}
		if i >= pieces {
			x = api.Ins{Op: api.TacLoad, D: 2, A: tmp(0), Off: x.Off, Width: 1, Signed: true}
		}
		add(x)
	}
	for len(f.Code) < code-1 {
		add(api.Ins{Op: api.TacMov, D: 2, A: tmp(2)})
	}
	add(api.Ins{Op: api.TacRet, D: -1, A: tmp(2)})
	return f
}

// limited asks which slots split of a function that is Main of a program besides one with a slot that splits.
func limited(t *testing.T, f api.TacFunc, want ...int) {
	t.Helper()
	other := program(t, "func other 0 1;slot 1 1;addr t0 0 0;ret;main 0").Funcs[0]
	p := api.TacProg{Funcs: []api.TacFunc{other, f}, Main: 1}
	if got := splits(t, p, 1); !slices.Equal(got, want) {
		t.Errorf("%d temporaries, %d instructions: %v split, want %v", f.Temps, len(f.Code), got, want)
	}
	if got := splits(t, p, 0); !slices.Equal(got, []int{0}) {
		t.Errorf("of the other function %v split", got)
	}
	q := ran(t, p)
	if _, why := follows(p, q, nil, api.MaxCode); why != "" {
		t.Errorf("%d temporaries, %d instructions: %s", f.Temps, len(f.Code), why)
	}
	if want == nil && (len(q.Funcs[1].Code) != len(f.Code) || q.Funcs[1].Temps != f.Temps) {
		t.Errorf("%d temporaries, %d instructions become %d and %d, though nothing splits", f.Temps, len(f.Code), q.Funcs[1].Temps, len(q.Funcs[1].Code))
	}
}

// TestP17_1MaxTemps: temporaries and pieces of all slots that do not escape are at most MaxTemps together, each piece once.
func TestP17_1MaxTemps(t *testing.T) {
	for _, pieces := range []int{1, 2, 3, 100, 2000} {
		code := 3*pieces + 10
		limited(t, filled(api.MaxTemps-pieces-1, pieces, 2*pieces, code, false), 0, 1)
		limited(t, filled(api.MaxTemps-pieces, pieces, 2*pieces, code, false))
		limited(t, filled(api.MaxTemps-pieces, pieces, 2*pieces, code, true), 0)
		limited(t, filled(api.MaxTemps-pieces+1, pieces, 2*pieces, code, true))
	}
	most := api.MaxTemps - 3
	limited(t, filled(3, most-1, most, 2*most, false), 0, 1)
	limited(t, filled(3, most, most, 2*most, false))
	limited(t, filled(3, most, most, 2*most, true), 0)
	limited(t, filled(3, most+1, most+1, 2*most, true))
	limited(t, filled(api.MaxTemps, 1, 1, 10, true))
	none := api.TacFunc{Name: "main", Temps: api.MaxTemps, Slots: []api.Slot{{Size: 4, Align: 4}}, Code: []api.Ins{{Op: api.TacSlot, D: 5}, {Op: api.TacRet, D: -1}}}
	limited(t, none, 0)
	none.Code = slices.Insert(none.Code, 1, api.Ins{Op: api.TacStore, D: -1, A: tmp(5), B: num(1), Width: 4})
	limited(t, none)
	none.Temps--
	limited(t, none, 0)
}

// TestP17_1MaxCode: instructions and twice all accesses of slots that do not escape are at most MaxCode together.
func TestP17_1MaxCode(t *testing.T) {
	for _, accesses := range []int{1, 2, 50, 1000, 5000} {
		limited(t, filled(3, 1, accesses, api.MaxCode-2*accesses-2, false), 0, 1)
		limited(t, filled(3, 1, accesses, api.MaxCode-2*accesses-1, false))
		limited(t, filled(3, 1, accesses, api.MaxCode-2*accesses, true), 0)
		limited(t, filled(3, 1, accesses, api.MaxCode-2*accesses+1, true))
	}
	limited(t, filled(3, 1, 2, api.MaxCode, false))
	const most = (api.MaxCode - 5) / 3
	limited(t, filled(3, 1, most, 0, true), 0)
	limited(t, filled(3, 1, most+1, 0, true))
	none := filled(3, 1, 0, api.MaxCode, true)
	none.Code[0].Off = 0
	limited(t, none, 0)
}

package sroa

import (
	"mortise/api"
	"mortise/tac"
)

// place is a byte of a slot.
type place struct{ slot, off int }

// piece is what an access reads or writes: so many bytes from a place on.
type piece struct {
	at    place
	width int
}

// frame is what a function does with its slots.
type frame struct {
	fn       api.TacFunc
	kept     map[int]place // by temporary: where it leads, if it is a kept address
	accesses map[piece]int // how many there are of each piece
	named    []bool        // by slot: a TacSlot names it
	escapes  []bool        // by slot
}

// frameOf looks through a function.
func frameOf(f api.TacFunc) *frame {
	r := &frame{fn: f, kept: map[int]place{}, accesses: map[piece]int{}, named: make([]bool, len(f.Slots)), escapes: make([]bool, len(f.Slots))}
	r.findAddresses()
	r.findAccesses()
	r.findShared()
	return r
}

// findAddresses tells kept addresses from others, whose slots escape.
func (r *frame) findAddresses() {
	lost := lostTemps(r.fn)
	for _, x := range r.fn.Code {
		if x.Op != api.TacSlot {
			continue
		}
		r.named[x.N] = true
		if lost[x.D] {
			r.escapes[x.N] = true
		} else {
			r.kept[x.D] = place{x.N, x.Off}
		}
	}
}

// lostTemps tells of each temporary whether it could be no kept address: it has a value from elsewhere too, or its value goes elsewhere.
func lostTemps(f api.TacFunc) []bool {
	lost, written := make([]bool, f.Temps), make([]bool, f.Temps)
	for t := range f.Params {
		lost[t] = true
	}
	for _, x := range f.Code {
		if d := tac.Writes(x); d >= 0 {
			lost[d] = lost[d] || written[d]
			written[d] = true
		}
		if isAccess(x) {
			x.A = api.Arg{}
		}
		for _, t := range tac.Reads(x) {
			lost[t] = true
		}
	}
	return lost
}

// isAccess tells of an instruction that reads or writes where its A leads.
func isAccess(x api.Ins) bool { return x.Op == api.TacLoad || x.Op == api.TacStore }

// findAccesses counts the accesses of pieces; a slot in which one could not be there escapes.
func (r *frame) findAccesses() {
	for _, x := range r.fn.Code {
		p, ok := r.pieceOf(x)
		if !ok {
			continue
		}
		r.accesses[p]++
		if s := r.fn.Slots[p.at.slot]; p.at.off < 0 || p.at.off+p.width > s.Size || p.at.off%p.width != 0 || p.width > s.Align {
			r.escapes[p.at.slot] = true
		}
	}
}

// pieceOf is the piece of which an instruction is an access, if it is one.
func (r *frame) pieceOf(x api.Ins) (piece, bool) {
	if !isAccess(x) || x.A.Kind != api.ArgTemp {
		return piece{}, false
	}
	at, ok := r.kept[int(x.A.N)]
	if !ok {
		return piece{}, false
	}
	at.off += x.Off
	return piece{at, x.Width}, true
}

// findShared has slots escape whose pieces share bytes. Since pieces lie at multiples of their widths, it is enough to ask for the wider ones in which a piece would lie.
func (r *frame) findShared() {
	for p := range r.accesses {
		for wide := 2 * p.width; wide <= 4; wide *= 2 {
			around := piece{place{p.at.slot, p.at.off - p.at.off%wide}, wide}
			if r.accesses[around] > 0 {
				r.escapes[p.at.slot] = true
			}
		}
	}
}

// splits lists the slots that become temporaries: none, if the function could become too large by it.
func (r *frame) splits() []int {
	temps, code := r.fn.Temps, len(r.fn.Code)
	for p, n := range r.accesses {
		if !r.escapes[p.at.slot] {
			temps++
			code += 2 * n
		}
	}
	if temps > api.MaxTemps || code > api.MaxCode {
		return nil
	}
	var list []int
	for s, named := range r.named {
		if named && !r.escapes[s] {
			list = append(list, s)
		}
	}
	return list
}

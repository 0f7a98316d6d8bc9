package sroa

import "mortise/api"

// access is an access of a slot: where it is, and how wide.
type access struct{ at, width int }

// toldSplits lists the slots that split, as the words of P17.1 say, one by one.
func toldSplits(f api.TacFunc) []int {
	var list []int
	temps, code := f.Temps, len(f.Code)
	for s := range f.Slots {
		named := false
		for _, x := range f.Code {
			named = named || x.Op == api.TacSlot && x.N == s
		}
		l := toldAccesses(f, s)
		if !named || toldEscapes(f, s, l) {
			continue
		}
		list = append(list, s)
		code += 2 * len(l)
		for i, a := range l {
			again := false
			for _, b := range l[:i] {
				again = again || a == b
			}
			if !again {
				temps++
			}
		}
	}
	if temps > api.MaxTemps || code > api.MaxCode {
		return nil
	}
	return list
}

// toldEscapes tells whether a slot that has these accesses escapes.
func toldEscapes(f api.TacFunc, s int, l []access) bool {
	for t := range f.Temps {
		if toldAddress(f, s, t) && !toldKept(f, t) {
			return true
		}
	}
	for _, a := range l {
		if a.at < 0 || a.at+a.width > f.Slots[s].Size || a.at%a.width != 0 || a.width > f.Slots[s].Align {
			return true
		}
		for _, b := range l {
			apart := a.at+a.width <= b.at || b.at+b.width <= a.at
			if a != b && !apart {
				return true
			}
		}
	}
	return false
}

// toldAddress tells whether a temporary is an address of a slot.
func toldAddress(f api.TacFunc, s, t int) bool {
	for _, x := range f.Code {
		if x.Op == api.TacSlot && x.N == s && x.D == t {
			return true
		}
	}
	return false
}

// toldKept tells whether an address is kept.
func toldKept(f api.TacFunc, t int) bool {
	writes := 0
	for _, x := range f.Code {
		if x.D == t {
			writes++
		}
		reads := 0
		for _, a := range append([]api.Arg{x.A, x.B}, x.Args...) {
			if a == tmp(t) {
				reads++
			}
		}
		if (x.Op == api.TacLoad || x.Op == api.TacStore) && x.A == tmp(t) {
			reads--
		}
		if reads > 0 {
			return false
		}
	}
	return writes == 1 && t >= f.Params
}

// toldAccesses are the accesses of a slot, in order.
func toldAccesses(f api.TacFunc, s int) []access {
	var l []access
	for _, a := range f.Code {
		if a.Op != api.TacSlot || a.N != s || !toldKept(f, a.D) {
			continue
		}
		for _, x := range f.Code {
			if (x.Op == api.TacLoad || x.Op == api.TacStore) && x.A == tmp(a.D) {
				l = append(l, access{a.Off + x.Off, x.Width})
			}
		}
	}
	return l
}

package layout

import "mortise/api"

// noBits are the Bits of a member that is no bit-field.
const noBits = -1

// lay lays the members of a struct or a union down, hands the place of each that has one to put, and answers how much room all of them take.
func (r *ruler) lay(row api.TypeRow, put func(api.Place)) extent {
	place, end, align := bits(0), bits(0), 1
	for i, m := range row.Members {
		if row.Kind == api.TUnion {
			place = 0
		}
		room := r.measure(m.Type)
		place = begin(place, m, room)
		if m.Bits != 0 {
			p := spot(place, m, room)
			p.Member = i
			put(p)
		}
		place += taken(m, room)
		end = max(end, place)
		if m.Name != "" { // bit-fields without a name do not align
			align = max(align, room.align)
		}
	}
	size := max(int(roundUp(end, 8)/8), 1)
	return extent{size: roundUp(size, align), align: align}
}

// begin is where a member begins that comes to a place.
func begin(place bits, m api.Member, room extent) bits {
	unit := inBits(room.size)
	switch {
	case m.Bits == noBits:
		return roundUp(place, inBits(room.align))
	case m.Bits == 0, place/unit != (place+bits(m.Bits)-1)/unit:
		return roundUp(place, unit)
	}
	return place
}

// taken is how many bits a member has.
func taken(m api.Member, room extent) bits {
	if m.Bits == noBits {
		return inBits(room.size)
	}
	return bits(m.Bits)
}

// spot is where a member lies that begins at a place: of a bit-field the unit and the bit within it.
func spot(place bits, m api.Member, room extent) api.Place {
	if m.Bits == noBits {
		return api.Place{Type: m.Type, Off: int(place / 8)}
	}
	unit := inBits(room.size)
	return api.Place{Type: m.Type, Off: room.size * int(place/unit), Bit: int(place % unit), Bits: m.Bits}
}

// find is where the member of a name lies. What has no name is found by none.
func (r *ruler) find(row api.TypeRow, name string) (at api.Place, found bool) {
	r.lay(row, func(p api.Place) {
		if name != "" && row.Members[p.Member].Name == name {
			at, found = p, true
		}
	})
	return at, found
}

// hop is what a hop comes to from a place, or false, if there is no such part.
func (r *ruler) hop(at api.Place, h api.Hop) (api.Place, bool) {
	row, _ := r.types.Row(at.Type)
	if h.Name != "" {
		p, ok := r.find(row, h.Name)
		p.Off += at.Off
		return p, ok
	}
	if row.Kind != api.TArray || h.Index < 0 || h.Index >= row.Len {
		return api.Place{}, false
	}
	off := at.Off + h.Index*r.measure(row.Elem).size
	return api.Place{Member: at.Member, Type: row.Elem, Off: off}, true
}

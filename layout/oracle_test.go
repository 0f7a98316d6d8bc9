package layout

import (
	"mortise/api"
	"mortise/ctype"
)

// The chapter told a second time: places go on bit by bit, and nothing is remembered.

// manyBytes is more than any type may have; it stands for all greater sizes.
const manyBytes = 1 << 40

// slow is what a type is found to be.
type slow struct {
	size   int
	align  int
	large  bool // it, or a type within it, is too large
	places []api.Place
}

// width is how many bytes a scalar has.
func width(k api.TypeKind) int {
	switch k {
	case api.TBool, api.TChar, api.TSChar, api.TUChar:
		return 1
	case api.TShort, api.TUShort:
		return 2
	}
	return 4
}

// tell finds out what a whole type is.
func tell(c *ctype.Table, id int) slow {
	row, _ := c.Row(id)
	var s slow
	switch row.Kind {
	case api.TArray:
		s = tell(c, row.Elem)
		s.size = min(s.size*row.Len, manyBytes)
		s.places = nil
	case api.TStruct:
		s = tellStruct(c, row.Members)
	case api.TUnion:
		s = tellUnion(c, row.Members)
	default:
		s = slow{size: width(row.Kind), align: width(row.Kind)}
	}
	s.large = s.large || s.size > 16384
	return s
}

// upTo is the first number from n on that is a multiple of step.
func upTo(n, step int) int {
	if left := n % step; left > 0 {
		return n + step - left
	}
	return n
}

// tellStruct finds out what a struct of members is.
func tellStruct(c *ctype.Table, members []api.Member) slow {
	s := slow{align: 1}
	place := 0
	for i, m := range members {
		own := tell(c, m.Type)
		s.large = s.large || own.large
		unit := own.size * 8
		switch {
		case m.Bits == -1:
			place = upTo(place, own.align*8)
			s.places = append(s.places, api.Place{Member: i, Type: m.Type, Off: place / 8})
			place = min(place+unit, manyBytes*8)
			s.align = max(s.align, own.align)
		case m.Bits == 0:
			place = upTo(place, unit)
		default:
			for k := range m.Bits {
				if (place+k)/unit != place/unit {
					place = upTo(place, unit)
				}
			}
			s.places = append(s.places, api.Place{Member: i, Type: m.Type, Off: (place - place%unit) / 8, Bit: place % unit, Bits: m.Bits})
			place += m.Bits
			if m.Name != "" {
				s.align = max(s.align, own.size)
			}
		}
	}
	s.size = upTo(max(upTo(place, 8)/8, 1), s.align)
	return s
}

// tellUnion finds out what a union of members is.
func tellUnion(c *ctype.Table, members []api.Member) slow {
	s := slow{size: 1, align: 1}
	for i, m := range members {
		own := tell(c, m.Type)
		s.large = s.large || own.large
		bytes := own.size
		if m.Bits >= 0 {
			bytes = upTo(m.Bits, 8) / 8
		}
		s.size = max(s.size, bytes)
		if m.Name != "" {
			s.align = max(s.align, own.align)
		}
		if m.Bits != 0 {
			s.places = append(s.places, api.Place{Member: i, Type: m.Type, Bits: max(m.Bits, 0)})
		}
	}
	s.size = upTo(s.size, s.align)
	return s
}

// mark sets what an object of a type has, at a byte of a greater one, a bool a bit.
func mark(c *ctype.Table, id int, has []bool, at int) {
	row, _ := c.Row(id)
	switch row.Kind {
	case api.TArray:
		size := tell(c, row.Elem).size
		for i := range row.Len {
			mark(c, row.Elem, has, at+i*size)
		}
	case api.TStruct, api.TUnion:
		for _, p := range tell(c, id).places {
			if p.Bits == 0 {
				mark(c, p.Type, has, at+p.Off)
			} else if row.Members[p.Member].Name != "" {
				markBits(has, 8*(at+p.Off)+p.Bit, p.Bits)
			}
		}
	default:
		markBits(has, 8*at, 8*width(row.Kind))
	}
}

// markBits sets n bools from one on.
func markBits(has []bool, from, n int) {
	for i := range n {
		has[from+i] = true
	}
}

// slowGaps are the gaps of a type.
func slowGaps(c *ctype.Table, id int) []api.Gap {
	has := make([]bool, 8*tell(c, id).size)
	mark(c, id, has, 0)
	var l []api.Gap
	for i := 0; i < len(has); {
		from := i
		for i < len(has) && !has[i] {
			i++
		}
		if i > from {
			l = append(l, api.Gap{From: from, Bits: i - from})
		}
		for i < len(has) && has[i] {
			i++
		}
	}
	return l
}

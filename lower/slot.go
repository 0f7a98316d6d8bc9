package lower

import "mortise/api"

// slotAlign is how slots of aggregates and of records without a place are aligned: whatever lies in them, they may be written by whole words.
const slotAlign = 4

// spare is room for records that lie nowhere else: what was returned, and what must not change until it is taken.
type spare struct {
	used int // bytes that are held now
	most int // bytes that were held at one time
}

// take holds as many bytes, none of which is beyond a slot's end, and answers the first one.
func (s *spare) take(size int) int {
	at := roundUp(s.used, slotAlign)
	if at/api.MaxSize != (at+size-1)/api.MaxSize {
		at = roundUp(at, api.MaxSize)
	}
	s.used = at + size
	s.most = max(s.most, s.used)
	return at
}

// roundUp is the next multiple of by.
func roundUp(n, by int) int { return (n + by - 1) / by * by }

// spareFor is room for a record.
func (b *builder) spareFor(is shape) address {
	at := b.spare.take(is.size)
	a := inSlot(len(b.source.Locals) + at/api.MaxSize)
	a.off = at % api.MaxSize
	return a
}

// isSpare tells whether something lies where no pointer of the program leads.
func (b *builder) isSpare(a address) bool {
	return a.in == aSlot && a.n >= len(b.source.Locals)
}

// laySlots tells the function's slots: those of its locals, by their numbers, and the spare ones.
func (b *builder) laySlots() {
	for _, id := range b.source.Locals {
		is := b.shape(id)
		s := api.Slot{Size: is.size, Align: slotAlign}
		if is.isScalar() {
			s.Align = is.align
		}
		b.Slots = append(b.Slots, s)
	}
	for at := 0; at < b.spare.most; at += api.MaxSize {
		b.Slots = append(b.Slots, api.Slot{Size: min(api.MaxSize, b.spare.most-at), Align: slotAlign})
	}
	if len(b.Slots) > api.MaxSlots {
		b.packSlots()
	}
}

// packSlots lays many slots into few: they share no byte, and pointers into two of them were never held against each other but for whether they are the same.
func (b *builder) packSlots() {
	var few []api.Slot
	var places []address
	for _, s := range b.Slots {
		last := len(few) - 1
		if last < 0 || roundUp(few[last].Size, s.Align)+s.Size > api.MaxSize {
			few = append(few, api.Slot{Align: slotAlign})
			last++
		}
		at := roundUp(few[last].Size, s.Align)
		few[last].Size = at + s.Size
		places = append(places, address{in: aSlot, n: last, off: at})
	}
	b.Slots = few
	for i := range b.Code {
		if x := &b.Code[i]; x.Op == api.TacSlot {
			to := places[x.N]
			x.N = to.n
			x.Off += to.off
		}
	}
}

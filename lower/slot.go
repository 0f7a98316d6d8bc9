package lower

import (
	"slices"

	"mortise/api"
)

// slotAlign is how slots of aggregates and of records without a place are aligned: whatever lies in them, they may be written by whole words.
const slotAlign = 4

// roundUp is the next multiple of by.
func roundUp(n, by int) int { return (n + by - 1) / by * by }

// laySlots tells the function's slots: those of its locals, by their numbers, and the spare ones; or fewer, if there would be too many, or if few are wanted.
func (b *builder) laySlots(few bool) {
	b.Slots = append(b.localSlots(), b.spareSlots()...)
	if few || len(b.Slots) > api.MaxSlots {
		b.packSlots()
	}
}

// localSlots are the slots of the function's locals.
func (b *builder) localSlots() []api.Slot {
	var l []api.Slot
	for _, id := range b.source.Locals {
		is := b.shape(id)
		s := api.Slot{Size: is.size, Align: slotAlign}
		if is.isScalar() {
			s.Align = is.align
		}
		l = append(l, s)
	}
	return l
}

// packSlots lays the function's many slots into few.
func (b *builder) packSlots() {
	few, places := packed(b.Slots, b.named())
	b.Slots = few
	for i := range b.Code {
		if x := &b.Code[i]; x.Op == api.TacSlot {
			to := places[x.N]
			x.N = to.n
			x.Off += to.off
		}
	}
}

// named tells of each local and of each spare slot whether code names it.
func (b *builder) named() []bool {
	l := make([]bool, len(b.source.Locals)+min(b.asked(), b.spare.room))
	for _, x := range b.Code {
		if x.Op == api.TacSlot {
			l[x.N] = true
		}
	}
	return l
}

// packed lays slots into few, and answers where each of those is that are named: they share no byte, and pointers into two of them were never held against each other but for whether they are the same.
func packed(slots []api.Slot, named []bool) (few []api.Slot, places []address) {
	places = make([]address, len(slots))
	for i, s := range slots {
		if !named[i] {
			continue
		}
		n := slices.IndexFunc(few, func(f api.Slot) bool { return roundUp(f.Size, s.Align)+s.Size <= api.MaxSize })
		if n < 0 {
			n = len(few)
			few = append(few, api.Slot{Align: slotAlign})
		}
		at := roundUp(few[n].Size, s.Align)
		few[n].Size = at + s.Size
		places[i] = address{in: aSlot, n: n, off: at}
	}
	return few, places
}

package lower

import "mortise/api"

// spare is room for records that lie nowhere else: what was returned, and what must not change until it is taken.
type spare struct {
	used  int     // bytes that are held now
	most  int     // bytes that were held at one time
	room  int     // how many slots there are
	lost  api.Arg // where these may be too few: up to which byte nothing that is held is asked for any more
	stuck int     // the label at which a run goes on for which they are too few
}

// anyRoom is as many slots as no function asks for: each record that is held needs a token.
const anyRoom = api.MaxTokens

// take holds as many bytes, none of which is beyond a slot's end, and answers the first one.
func (s *spare) take(size int) int {
	at := roundUp(s.used, slotAlign)
	if at/api.MaxSize != (at+size-1)/api.MaxSize {
		at = roundUp(at, api.MaxSize)
	}
	s.used = at + size
	s.most = max(s.most, s.used)
	return at
}

// asked is how many spare slots the function asks for: so many that each of the records that may be held at one time has its own bytes.
func (b *builder) asked() int { return roundUp(b.spare.most, api.MaxSize) / api.MaxSize }

// isTight tells whether the function may have fewer than it asks for.
func (b *builder) isTight() bool { return b.spare.room < anyRoom }

// spareFor is room for a record. Where no slots are left, the first ones are taken again.
func (b *builder) spareFor(is shape) address {
	at := b.spare.take(is.size)
	b.giveUpUnlessLost(at + is.size - b.spare.room*api.MaxSize)
	a := inSlot(len(b.source.Locals) + at/api.MaxSize%b.spare.room)
	a.off = at % api.MaxSize
	return a
}

// isSpare tells whether something lies where no pointer of the program leads.
func (b *builder) isSpare(a address) bool {
	return a.in == aSlot && a.n >= len(b.source.Locals)
}

// spareSlots are the slots of what lies nowhere else.
func (b *builder) spareSlots() []api.Slot {
	var l []api.Slot
	for i := range min(b.asked(), b.spare.room) {
		l = append(l, api.Slot{Size: min(api.MaxSize, b.spare.most-i*api.MaxSize), Align: slotAlign})
	}
	return l
}

// openRoom makes ready what tells whether there is room, in a function that may have too little.
func (b *builder) openRoom() {
	if b.isTight() {
		b.spare.lost, b.spare.stuck = temporary(b.fresh()), b.label()
		b.move(b.spare.lost, number(0))
	}
}

// closeRoom writes where a run goes on for which there is no room: it ends by StopFuel.
func (b *builder) closeRoom() {
	if b.isTight() {
		b.put(b.spare.stuck)
		b.jump(b.spare.stuck)
	}
}

// giveUpUnlessLost writes that a run goes no further, if so many bytes are taken again that may be asked for yet.
func (b *builder) giveUpUnlessLost(again int) {
	if again > 0 {
		low := b.held
		b.branch(b.reckon(low, api.OpLtS, b.spare.lost, number(uint32(again))), b.spare.stuck)
		b.held = low
	}
}

// unlessGiven writes that all that is held is lost, if a function gave no record that is taken for something: the run ends ahead of that, or something undefined is done.
func (b *builder) unlessGiven(gave api.Arg) {
	past := b.label()
	b.branch(gave, past)
	b.move(b.spare.lost, number(uint32(b.spare.used)))
	b.put(past)
}

package lower

import "mortise/api"

// record writes the node of a struct or a union, and answers where its bytes lie. There they stay, until something else is written that turns them.
func (b *builder) record(x *api.Tree) address {
	switch x.Kind {
	case api.TxSet:
		return b.setRecord(x)
	case api.TxCond:
		return b.chosenRecord(x)
	case api.TxComma:
		b.effect(&x.Sub[0])
		return b.record(&x.Sub[1])
	case api.TxCall:
		return b.callRecord(x, true)
	}
	return b.address(&x.Sub[0])
}

// setRecord writes a TxSet of a record. What it is worth is what the place has then.
func (b *builder) setRecord(x *api.Tree) address {
	to := b.address(&x.Sub[0])
	low, spare := b.held, b.spare.used
	b.copyRecord(to, b.record(&x.Sub[1]), b.shape(x.Type))
	b.held, b.spare.used = low, spare
	return to
}

// chosenRecord writes a TxCond of records.
func (b *builder) chosenRecord(x *api.Tree) address {
	if liesNowhere(x) {
		return b.gatheredRecord(x)
	}
	to := b.temp()
	low := b.held
	side := func(x *api.Tree) {
		b.held = low
		b.move(to, b.pointer(b.record(x)))
	}
	b.choose(&x.Sub[0], func() { side(&x.Sub[1]) }, func() { side(&x.Sub[2]) })
	b.held = low
	return behind(to)
}

// liesNowhere tells whether a record's bytes may lie nowhere else than in room for such.
func liesNowhere(x *api.Tree) bool {
	switch x.Kind {
	case api.TxCall:
		return true
	case api.TxComma:
		return liesNowhere(&x.Sub[1])
	case api.TxCond:
		return liesNowhere(&x.Sub[1]) || liesNowhere(&x.Sub[2])
	}
	return false
}

// gatheredRecord writes a TxCond of records, one of which lies nowhere else: there another one is laid, too. So what a function returned stays where it is, even if that is nothing: to copy it would take steps that C's machine does not.
func (b *builder) gatheredRecord(x *api.Tree) address {
	var to address
	low, spare, is := b.held, b.spare.used, b.shape(x.Type)
	side := func(x *api.Tree) {
		b.held, b.spare.used = low, spare
		from := b.record(x)
		b.spare.used = spare
		to = b.spareFor(is)
		if from != to {
			b.copyBytes(to, from, is)
		}
	}
	b.choose(&x.Sub[0], func() { side(&x.Sub[1]) }, func() { side(&x.Sub[2]) })
	b.held = low
	return to
}

// copyRecord copies a record. C's machine reads all of it ahead of putting it down, so what lies across is copied by way of elsewhere.
func (b *builder) copyRecord(to, from address, is shape) {
	if b.mayClash(to, from, is.size) {
		aside := b.spareFor(is)
		b.copyBytes(aside, from, is)
		from = aside
	}
	b.copyBytes(to, from, is)
}

// copyBytes copies a record that does not lie across where it is copied to.
func (b *builder) copyBytes(to, from address, is shape) {
	low := b.held
	target := b.pointer(to)
	b.write(api.Ins{Op: api.TacCopy, A: target, B: b.pointer(from), Off: is.size, Width: is.align})
	b.held = low
}

// mayClash tells whether bytes at one address and at the other may share some, but not all of them in place.
func (b *builder) mayClash(to, from address, size int) bool {
	if to.in == from.in && to.n == from.n && to.p == from.p {
		gap := to.off - from.off
		return gap != 0 && -size < gap && gap < size
	}
	if to.in != aPointer && from.in != aPointer {
		return false
	}
	return !b.fills(to, size) && !b.fills(from, size)
}

// fills tells whether so many bytes at an address are a whole slot or object, or lie where no pointer leads: where as many more are, these are the same, or they share none.
func (b *builder) fills(a address, size int) bool {
	return a.in != aPointer && (b.isSpare(a) || b.rootSize(a) == size)
}

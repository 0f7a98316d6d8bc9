package lower

import (
	"mortise/api"
	"mortise/word"
)

// root is from where an address is told.
type root int

// The roots.
const (
	aSlot root = iota
	anObject
	aPointer
)

// address is where something lies: so many bytes behind the beginning of a slot or an object, or behind what a pointer points to.
type address struct {
	in  root
	n   int     // the slot's or the object's number
	p   api.Arg // the pointer
	off int
}

// inSlot is the beginning of a slot.
func inSlot(n int) address { return address{in: aSlot, n: n} }

// behind is where a pointer points to.
func behind(p api.Arg) address { return address{in: aPointer, p: p} }

// place is where something lies, what it is, and, of a bit-field, which bits it has of the unit there (Bits 0: it is none).
type place struct {
	address
	is    shape
	field api.Place
}

// How the Num of a TxPart is put together.
const (
	offsetUnit = 2048
	bitUnit    = 64
)

// placeOf writes what a place is told by.
func (b *builder) placeOf(x *api.Tree) place {
	p := place{address: b.address(x), is: b.shape(x.Type)}
	if x.Kind == api.TxPart {
		p.field = api.Place{Bit: x.Num % offsetUnit / bitUnit, Bits: x.Num % bitUnit}
	}
	return p
}

// address writes what a place is told by, and answers where it is.
func (b *builder) address(x *api.Tree) address {
	switch x.Kind {
	case api.TxLocal:
		return inSlot(x.Num)
	case api.TxGlobal:
		return address{in: anObject, n: x.Num}
	case api.TxPart:
		a := b.address(&x.Sub[0])
		a.off += x.Num / offsetUnit
		return a
	case api.TxLit:
		b.start(x.Num, x.Sub)
		return inSlot(x.Num)
	}
	return b.pointed(&x.Sub[0])
}

// pointed is where a pointer points to. What is known of that is not reckoned by code.
func (b *builder) pointed(x *api.Tree) address {
	switch x.Kind {
	case api.TxAddr:
		return b.address(&x.Sub[0])
	case api.TxConv:
		return b.pointed(&x.Sub[0])
	case api.TxPtrAdd:
		return b.moved(x)
	}
	return behind(b.value(x))
}

// moved is where a TxPtrAdd points to. The pointer is told ahead of being moved on: alone the way that is moved may lead out of the block.
func (b *builder) moved(x *api.Tree) address {
	low := b.held
	from := b.pointed(&x.Sub[0])
	by := b.product(b.held, &x.Sub[1], x.Num)
	if by.Kind == api.ArgConst {
		from.off += word.Int(by.N)
		return from
	}
	return behind(b.reckon(low, api.OpAdd, b.pointer(from), by))
}

// product is a value times a number.
func (b *builder) product(low int, x *api.Tree, by int) api.Arg {
	v := b.value(x)
	if by == 1 {
		return v
	}
	return b.reckon(low, api.OpMul, v, number(word.Of(by)))
}

// pointer is an address as an operand.
func (b *builder) pointer(a address) api.Arg {
	if a.in != aPointer && 0 <= a.off && a.off <= b.rootSize(a) {
		return b.gain(b.temp(), rooted(a, a.off))
	}
	p := a.p
	if a.in != aPointer {
		p = b.gain(b.temp(), rooted(a, 0))
	}
	if a.off == 0 {
		return p
	}
	return b.reckon(b.held, api.OpAdd, p, number(word.Of(a.off)))
}

// rooted points so many bytes behind the beginning of an address's slot or object.
func rooted(a address, off int) api.Ins {
	if a.in == anObject {
		return api.Ins{Op: api.TacGlobal, N: a.n, Off: off}
	}
	return api.Ins{Op: api.TacSlot, N: a.n, Off: off}
}

// rootSize is how many bytes an address's slot or object has.
func (b *builder) rootSize(a address) int {
	switch {
	case a.in == anObject:
		return b.shape(b.prog.Globals[a.n].Type).size
	case b.isSpare(a):
		return api.MaxSize // it is not known yet, and addresses do not go beyond it
	}
	return b.shape(b.source.Locals[a.n]).size
}

// reach is an address as loads and stores take it: an operand, and how many bytes behind that it is.
func (b *builder) reach(a address) (api.Arg, int) {
	if a.off < -api.MaxSize || a.off+slotAlign > api.MaxSize {
		return b.pointer(a), 0
	}
	switch a.in {
	case aSlot:
		return b.gain(b.once(), rooted(a, 0)), a.off
	case anObject:
		return b.gain(b.temp(), rooted(a, 0)), a.off
	}
	return a.p, a.off
}

// load is what a place has. From low on no temporary is held but by the place.
func (b *builder) load(low int, p place) api.Arg {
	if p.field.Bits != 0 {
		return b.loadField(low, p)
	}
	width := word.Width(p.is.kind)
	at, off := b.reach(p.address)
	b.held = low
	return b.gain(b.temp(), api.Ins{Op: api.TacLoad, A: at, Off: off, Width: width, Signed: width < slotAlign && word.Signed(p.is.kind)})
}

// store gives a place a value.
func (b *builder) store(p place, v api.Arg) {
	low := b.held
	if p.field.Bits != 0 {
		b.storeField(p, v)
	} else {
		at, off := b.reach(p.address)
		b.write(api.Ins{Op: api.TacStore, A: at, Off: off, B: v, Width: word.Width(p.is.kind)})
	}
	b.held = low
}

package lower

import (
	"mortise/api"
	"mortise/word"
)

// maxStored is up to how many bytes of noughts an object gets by single stores: these leave it to layer 17, and more of them would be long.
const maxStored = 64

// start writes what begins a local: all its bytes are 0, then it is set as the TxSets say. Those among them that are constants are put together into few stores: a text of layer 10 has one TxSet for each of its letters.
func (b *builder) start(n int, sets []api.Tree) {
	if len(sets) == 0 || !b.covers(n, &sets[0]) {
		run := b.constantSets(n, sets)
		b.layZeroed(n, run)
		sets = sets[len(run):]
	}
	for len(sets) > 0 {
		run := b.constantSets(n, sets)
		if len(run) < 2 {
			run = sets[:1]
			b.effect(&sets[0])
		} else {
			b.lay(n, b.imageOf(n, run), false)
		}
		sets = sets[len(run):]
	}
}

// covers tells whether a TxSet of local n sets all its bytes without asking what they were.
func (b *builder) covers(n int, set *api.Tree) bool {
	to := &set.Sub[0]
	if at, isField := within(to); at != 0 || isField {
		return false
	}
	return b.shape(to.Type).size == b.shape(b.source.Locals[n]).size && !mentions(&set.Sub[1], n)
}

// within tells of a place that is a local, or a part of one, how many bytes from that one's beginning on it is, and whether it is a bit-field.
func within(to *api.Tree) (int, bool) {
	if to.Kind != api.TxPart {
		return 0, false
	}
	return to.Num / offsetUnit, to.Num%offsetUnit != 0
}

// mentions tells whether local n is named in a node.
func mentions(x *api.Tree, n int) bool {
	if x.Kind == api.TxLocal && x.Num == n {
		return true
	}
	for i := range x.Sub {
		if mentions(&x.Sub[i], n) {
			return true
		}
	}
	return false
}

// isSetOf tells whether a node sets local n, or a part of it.
func isSetOf(n int, x *api.Tree) bool {
	if x.Kind != api.TxSet {
		return false
	}
	to := &x.Sub[0]
	if to.Kind == api.TxPart {
		to = &to.Sub[0]
	}
	return to.Kind == api.TxLocal && to.Num == n
}

// constantSets are those ahead of all others that set a scalar that is no bit-field to a constant.
func (b *builder) constantSets(n int, sets []api.Tree) []api.Tree {
	for i := range sets {
		_, known := b.known(&sets[i].Sub[1])
		_, isField := within(&sets[i].Sub[0])
		if !known || !isSetOf(n, &sets[i]) || isField {
			return sets[:i]
		}
	}
	return sets
}

// known is the number that a node always is, if that can be told.
func (b *builder) known(x *api.Tree) (uint32, bool) {
	switch x.Kind {
	case api.TxConst:
		return b.constant(x).N, true
	case api.TxConv:
		v, ok := b.known(&x.Sub[0])
		return word.Convert(b.shape(x.Type).kind, v), ok
	case api.TxBin:
		left, ok := b.known(&x.Sub[0])
		right, also := b.known(&x.Sub[1])
		if !ok || !also {
			return 0, false
		}
		return word.Bin(api.BinOp(x.Num), left, right)
	}
	return 0, false
}

// image is what bytes of a local get, as far as it is known.
type image struct {
	bytes []byte
	known []bool
}

// imageOf is what local n gets by TxSets of constants.
func (b *builder) imageOf(n int, sets []api.Tree) image {
	size := b.shape(b.source.Locals[n]).size
	m := image{bytes: make([]byte, size), known: make([]bool, size)}
	for i := range sets {
		to := &sets[i].Sub[0]
		at, _ := within(to)
		v, _ := b.known(&sets[i].Sub[1])
		for j, c := range word.Bytes(v, word.Width(b.shape(to.Type).kind)) {
			m.bytes[at+j], m.known[at+j] = c, true
		}
	}
	return m
}

// layZeroed gives local n noughts, and what TxSets of constants say.
func (b *builder) layZeroed(n int, sets []api.Tree) {
	m := b.imageOf(n, sets)
	for i := range m.known {
		m.known[i] = true
	}
	many := m.noughts() > maxStored
	if many {
		b.clear(n, len(m.bytes))
	}
	b.lay(n, m, many)
}

// clear gives all bytes of local n noughts: some by a store, then ever more by copies of those that have theirs.
func (b *builder) clear(n, size int) {
	low := b.held
	from := b.pointer(inSlot(n))
	b.write(api.Ins{Op: api.TacStore, A: from, B: number(0), Width: slotAlign})
	for done := slotAlign; done < size; {
		more := min(done, size-done)
		to := b.pointer(address{in: aSlot, n: n, off: done})
		b.write(api.Ins{Op: api.TacCopy, A: to, B: from, Off: more, Width: widest(more)})
		b.held = low + 1
		done += more
	}
	b.held = low
}

// widest is the greatest width of which a number of bytes is a multiple.
func widest(n int) int {
	for _, w := range []int{4, 2} {
		if n%w == 0 {
			return w
		}
	}
	return 1
}

// lay gives the known bytes of local n what they get, but for noughts, if it has noughts already.
func (b *builder) lay(n int, m image, clear bool) {
	low := b.held
	at, _ := b.reach(inSlot(n))
	m.eachStore(func(i, width int, v uint32) {
		if v != 0 || !clear {
			b.write(api.Ins{Op: api.TacStore, A: at, Off: i, B: number(v), Width: width})
		}
	})
	b.held = low
}

// eachStore hands on what is stored at one time: known bytes, as many as go together.
func (m image) eachStore(do func(i, width int, v uint32)) {
	for i := 0; i < len(m.bytes); {
		width := m.width(i)
		if width == 0 {
			i++
			continue
		}
		v, _ := word.Value(m.bytes[i:i+width], false)
		do(i, width, v)
		i += width
	}
}

// noughts is how many bytes would be stored as noughts alone.
func (m image) noughts() int {
	count := 0
	m.eachStore(func(_, width int, v uint32) {
		if v == 0 {
			count += width
		}
	})
	return count
}

// width is how many bytes from one on may be stored at one time, if it is known.
func (m image) width(at int) int {
	for _, w := range []int{4, 2, 1} {
		if at%w == 0 && at+w <= len(m.known) && m.allKnown(at, at+w) {
			return w
		}
	}
	return 0
}

// allKnown tells whether all bytes from one on up to another one are known.
func (m image) allKnown(from, to int) bool {
	for _, k := range m.known[from:to] {
		if !k {
			return false
		}
	}
	return true
}

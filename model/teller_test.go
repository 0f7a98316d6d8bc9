package model

import (
	"mortise/api"
	"mortise/ctype"
	"mortise/layout"
)

// thing is a value of the second telling: a number, as large as C says that it is (n), a pointer (to byte n of block), the bytes of a struct or a union, or nothing.
type thing struct {
	sort  int
	n     int64
	block int
	bytes []api.Cell
}

// The sorts of things.
const (
	isNone = iota
	isNumber
	isPointer
	isBytes
)

// teller is a second telling of the chapter: it has no closures, no panics and a memory of its own, and stops where it is over.
type teller struct {
	p       api.Prog
	types   *ctype.Table
	rooms   map[int][2]int // of the types that were asked for
	blocks  map[int][]api.Cell
	aligns  map[int]int
	last    int
	stack   []map[int]int // of each call the blocks of its locals
	funcs   []int         // of each call its function
	olds    []thing
	given   thing // what a TsReturn gave
	input   []byte
	fuel    int
	o       api.Outcome
	visited map[api.TreeKind]int
}

// tell is the outcome of a run as the second telling has it.
func tell(p api.Prog, input []byte, fuel int) api.Outcome { return newTeller(p, input, fuel).all() }

// newTeller makes a teller that has not begun.
func newTeller(p api.Prog, input []byte, fuel int) *teller {
	types, _ := ctype.From(p.Types)
	return &teller{p: p, types: types, rooms: map[int][2]int{}, blocks: map[int][]api.Cell{}, aligns: map[int]int{}, input: input, fuel: fuel, visited: map[api.TreeKind]int{}}
}

// all tells the whole run.
func (w *teller) all() api.Outcome {
	for _, g := range w.p.Globals {
		w.makeBlock(g.Type)
	}
	for i, g := range w.p.Globals {
		for j, b := range g.Data.Bytes {
			w.blocks[i+1][j] = api.Cell{Kind: api.ValNum, V: uint32(b)}
		}
		for _, r := range g.Data.Relocs {
			for part := range 4 {
				w.blocks[i+1][r.Off+part] = api.Cell{Kind: api.ValPtr, V: uint32(r.Add), Block: r.Global + 1, Part: part}
			}
		}
	}
	v := w.call(w.p.Main, nil)
	if !w.over() {
		w.stop(api.StopExit)
		w.o.Code = int(v.n)
	}
	return w.o
}

func (w *teller) over() bool { return w.o.Stop != 0 }

// stop ends the run, unless it is over.
func (w *teller) stop(s api.Stop) thing {
	if !w.over() {
		w.o.Stop = s
	}
	return thing{}
}

func (w *teller) undefined() thing { return w.stop(api.StopUndef) }

// steps takes steps one by one.
func (w *teller) steps(n int) {
	for range n {
		if w.over() {
			return
		}
		if w.o.Steps == w.fuel {
			w.stop(api.StopFuel)
			return
		}
		w.o.Steps++
	}
}

func (w *teller) kind(id int) api.TypeKind { return w.p.Types[id].Kind }

// room is the size and the alignment of a type.
func (w *teller) room(id int) [2]int {
	if _, known := w.rooms[id]; !known {
		size, _ := layout.Size(w.types, id)
		align, _ := layout.Align(w.types, id)
		w.rooms[id] = [2]int{size, align}
	}
	return w.rooms[id]
}

func (w *teller) size(id int) int { return w.room(id)[0] }

func (w *teller) align(id int) int { return w.room(id)[1] }

func (w *teller) record(id int) bool {
	return w.kind(id) == api.TStruct || w.kind(id) == api.TUnion
}

// makeBlock makes a block for a type.
func (w *teller) makeBlock(id int) int {
	w.last++
	w.blocks[w.last], w.aligns[w.last] = make([]api.Cell, w.size(id)), w.align(id)
	return w.last
}

// there are n bytes at a pointer by some alignment, or none of them, if that is undefined.
func (w *teller) there(p thing, n, by int) []api.Cell {
	b, lives := w.blocks[p.block]
	if p.sort != isPointer || !lives || p.n < 0 || p.n+int64(n) > int64(len(b)) || p.n%int64(by) != 0 || w.aligns[p.block] < by {
		w.undefined()
		return nil
	}
	return b[p.n : p.n+int64(n)]
}

// good tells whether a pointer is.
func (w *teller) good(p thing) bool {
	b, lives := w.blocks[p.block]
	return p.sort == isPointer && lives && p.n >= 0 && p.n <= int64(len(b))
}

// limits are the least and the greatest number of a kind.
func limits(k api.TypeKind) (int64, int64) {
	switch k {
	case api.TBool:
		return 0, 1
	case api.TChar, api.TSChar:
		return -128, 127
	case api.TUChar:
		return 0, 255
	case api.TShort:
		return -32768, 32767
	case api.TUShort:
		return 0, 65535
	case api.TUInt, api.TULong:
		return 0, 1<<32 - 1
	}
	return -1 << 31, 1<<31 - 1
}

// wrap is a number taken round until a kind has it.
func wrap(n int64, k api.TypeKind) int64 {
	least, most := limits(k)
	if k == api.TBool {
		if n != 0 {
			return 1
		}
		return 0
	}
	count := most - least + 1
	return ((n-least)%count+count)%count + least
}

func (w *teller) number(n int64, id int) thing {
	return thing{sort: isNumber, n: wrap(n, w.kind(id))}
}

// truth tells whether a thing is not 0.
func (w *teller) truth(v thing) bool {
	switch {
	case v.sort == isNumber:
		return v.n != 0
	case !w.good(v):
		w.undefined()
	}
	return true
}

// call tells a call.
func (w *teller) call(n int, args []thing) thing {
	f := w.p.Funcs[n]
	live := len(f.Locals)
	for _, other := range w.funcs {
		live += len(w.p.Funcs[other].Locals)
	}
	if len(w.funcs)+1 > 64 || live > 2048 {
		return w.stop(api.StopDeep)
	}
	w.funcs, w.stack = append(w.funcs, n), append(w.stack, map[int]int{})
	for i, v := range args {
		if w.record(f.Locals[i]) {
			w.steps(w.size(f.Locals[i]))
		}
		if w.over() {
			return thing{}
		}
		b := w.makeBlock(f.Locals[i])
		w.frame()[i] = b
		w.put(thing{sort: isPointer, block: b}, f.Locals[i], 0, 0, v)
	}
	w.given = thing{}
	w.statement(f.Body)
	v := w.given
	w.given = thing{}
	for _, b := range w.frame() {
		delete(w.blocks, b)
	}
	w.funcs, w.stack = w.funcs[:len(w.funcs)-1], w.stack[:len(w.stack)-1]
	return v
}

func (w *teller) frame() map[int]int { return w.stack[len(w.stack)-1] }

// renew gives a local a new block, all of whose bytes are 0 or not set.
func (w *teller) renew(n int, zero bool) thing {
	if w.over() {
		return thing{}
	}
	if b, has := w.frame()[n]; has {
		delete(w.blocks, b)
	}
	b := w.makeBlock(w.p.Funcs[w.funcs[len(w.funcs)-1]].Locals[n])
	w.frame()[n] = b
	for i := range w.blocks[b] {
		if zero {
			w.blocks[b][i].Kind = api.ValNum
		}
	}
	return thing{sort: isPointer, block: b}
}

// localSize is the size of a local.
func (w *teller) localSize(n int) int {
	return w.size(w.p.Funcs[w.funcs[len(w.funcs)-1]].Locals[n])
}

// get tells what a place has: bits from bit on, if bits is not 0.
func (w *teller) get(p thing, id, bit, bits int) thing {
	switch {
	case w.over():
		return thing{}
	case bits != 0:
		return w.getBits(p, id, bit, bits)
	case w.record(id):
		return thing{sort: isBytes, bytes: append([]api.Cell(nil), w.there(p, w.size(id), w.align(id))...)}
	}
	cells := w.there(p, w.size(id), w.size(id))
	if len(cells) == 0 {
		return thing{}
	}
	n, numbers, parts := int64(0), 0, 0
	for i, c := range cells {
		if c.Kind == api.ValNum {
			numbers++
			n |= int64(c.V) << (8 * i)
		}
		if c.Kind == api.ValPtr && c.Part == i && c.V == cells[0].V && c.Block == cells[0].Block {
			parts++
		}
	}
	isPtr := w.kind(id) == api.TPtr
	switch {
	case numbers == len(cells) && isPtr && n == 0:
		return thing{sort: isNumber}
	case numbers == len(cells) && w.kind(id) == api.TBool: // as it is loaded, whatever its byte is
		return thing{sort: isNumber, n: n}
	case numbers == len(cells) && !isPtr:
		return w.number(n, id)
	case parts == 4 && isPtr:
		return thing{sort: isPointer, n: int64(cells[0].V), block: cells[0].Block}
	}
	return w.undefined()
}

// getBits tells what a bit-field has, bit by bit.
func (w *teller) getBits(p thing, id, bit, bits int) thing {
	n := int64(0)
	for i := range bits {
		c := w.there(thing{sort: p.sort, n: p.n + int64((bit+i)/8), block: p.block}, 1, 1)
		if len(c) == 0 || c[0].Kind != api.ValNum {
			return w.undefined()
		}
		n |= int64(c[0].V) >> ((bit + i) % 8) & 1 << i
	}
	if least, _ := limits(w.kind(id)); least < 0 && n>>(bits-1) == 1 {
		n -= 1 << bits
	}
	return thing{sort: isNumber, n: n}
}

// put gives a place a value, and answers what it has then.
func (w *teller) put(p thing, id, bit, bits int, v thing) thing {
	switch {
	case w.over():
		return thing{}
	case bits != 0:
		return w.putBits(p, id, bit, bits, v)
	case w.record(id):
		to := w.there(p, w.size(id), w.align(id))
		if len(to) == 0 || v.sort != isBytes {
			return w.undefined()
		}
		copy(to, v.bytes)
		return v
	}
	to := w.there(p, w.size(id), w.size(id))
	if v.sort != isNumber && v.sort != isPointer {
		return w.undefined()
	}
	for i := range to {
		if v.sort == isPointer {
			to[i] = api.Cell{Kind: api.ValPtr, V: uint32(v.n), Block: v.block, Part: i}
		} else {
			to[i] = api.Cell{Kind: api.ValNum, V: uint32(v.n>>(8*i)) & 255}
		}
	}
	return v
}

// putBits gives a bit-field a number, bit by bit; a byte that is not the field's alone must be known.
func (w *teller) putBits(p thing, id, bit, bits int, v thing) thing {
	if v.sort != isNumber {
		return w.undefined()
	}
	n := v.n
	if w.kind(id) == api.TBool && n != 0 {
		n = 1
	}
	for first := bit / 8; first <= (bit+bits-1)/8; first++ {
		c := w.there(thing{sort: p.sort, n: p.n + int64(first), block: p.block}, 1, 1)
		whole := bit <= 8*first && bit+bits >= 8*first+8
		if len(c) == 0 || !whole && c[0].Kind != api.ValNum {
			return w.undefined()
		}
		if whole {
			c[0] = api.Cell{Kind: api.ValNum}
		}
		for i := range 8 {
			if at := 8*first + i - bit; at >= 0 && at < bits {
				c[0].V = c[0].V&^(1<<i) | uint32(n>>at&1)<<i
			}
		}
	}
	return w.getBits(p, id, bit, bits)
}

package sroa

import (
	"fmt"
	"math/rand"

	"mortise/api"
)

// The temporaries of a grown function: its parameters (a number that counts how deep calls may go on, and a pointer to an object's beginning), numbers, such pointers, one that counts rounds, and one for a pointer anywhere. Behind them are addresses.
const (
	firstNumber  = 2
	firstPointer = 6
	counter      = 8
	scratch      = 9
	firstAddress = 10
)

// part is a piece of a grown slot; some have pointers in them.
type part struct {
	slot, at, width int
	pointer         bool
}

// home is an address: of which slot, at which byte, in which temporary.
type home struct{ slot, at, temp int }

// grower grows programs, most of whose runs go on for a while.
type grower struct {
	*rand.Rand
	wild  int // of so many choices one is any that may go wrong; 0: none is
	loose int // of so many choices one is such that a slot escapes; 0: none is
	p     api.TacProg
	f     *api.TacFunc
	own   int // the number of f
	parts []part
	homes []home // addresses that are set from the beginning on
	loops int
}

// one is one of some things.
func one[T any](g *grower, list ...T) T { return list[g.Intn(len(list))] }

// dares tells whether something may go wrong here.
func (g *grower) dares() bool { return g.wild > 0 && g.Intn(g.wild) == 0 }

// strays tells whether a slot is to escape here.
func (g *grower) strays() bool { return g.loose > 0 && g.Intn(g.loose) == 0 }

// eachGrown hands on so many grown programs; of each four in the first one all slots split, and in the last one things may go wrong.
func eachGrown(seed int64, n int, do func(g *grower, p api.TacProg)) {
	g := &grower{Rand: rand.New(rand.NewSource(seed))}
	for i := range n {
		g.wild, g.loose = []int{0, 0, 0, 30}[i%4], []int{0, 50, 8, 20}[i%4]
		do(g, g.program())
	}
}

// program grows a program; its last function is Main, and functions call those ahead of them and themselves.
func (g *grower) program() api.TacProg {
	g.p = api.TacProg{Main: g.Intn(4)}
	for i := range 2 {
		o := api.TacObject{Name: fmt.Sprint("o", i), Size: 16, Align: 4, Data: api.Data{Bytes: make([]byte, 16)}}
		g.Read(o.Data.Bytes)
		if i == 1 {
			clear(o.Data.Bytes[12:])
			o.Data.Relocs = []api.Reloc{{Off: 12, Global: g.Intn(2), Add: g.Intn(17)}}
		}
		g.p.Objects = append(g.p.Objects, o)
	}
	for i := range g.p.Main + 1 {
		f := api.TacFunc{Name: fmt.Sprint("f", i), Params: 2, Temps: firstAddress, Gives: g.Intn(3) > 0}
		if i == g.p.Main {
			f.Params = 0
		}
		g.p.Funcs = append(g.p.Funcs, f)
	}
	for i := range g.p.Funcs {
		g.own, g.f, g.parts, g.homes = i, &g.p.Funcs[i], nil, nil
		g.head()
		g.block(3 + g.Intn(25))
		g.end()
	}
	return g.p
}

// add lays an instruction down.
func (g *grower) add(x api.Ins) { g.f.Code = append(g.f.Code, x) }

// head makes slots, and gives them, their addresses and temporaries what they have at first.
func (g *grower) head() {
	for s := range g.Intn(5) {
		slot := api.Slot{Size: one(g, 1, 2, 3, 4, 4, 6, 8, 13, 16), Align: one(g, 1, 2, 4, 4)}
		g.f.Slots = append(g.f.Slots, slot)
		g.divide(s, slot)
		for range 1 + g.Intn(3) {
			g.homes = append(g.homes, g.address(s))
		}
	}
	for t := firstNumber; t < firstPointer; t++ {
		g.add(api.Ins{Op: api.TacMov, D: t, A: num(one(g, 0, 1, 255, 128, 65535, 1<<31, g.Uint32()))})
	}
	for t := firstPointer; t < counter; t++ {
		g.add(api.Ins{Op: api.TacGlobal, D: t, N: g.Intn(2)})
	}
	if g.f.Params == 0 {
		g.add(api.Ins{Op: api.TacMov, D: 0, A: num(3)})
		g.add(api.Ins{Op: api.TacGlobal, D: 1, N: 0})
	}
	for _, a := range g.parts {
		if !g.dares() {
			g.store(a)
		}
	}
}

// divide makes pieces of a slot; some of its bytes are in none.
func (g *grower) divide(s int, slot api.Slot) {
	for at := 0; at < slot.Size; {
		w := one(g, 1, 2, 4)
		for at%w != 0 || w > slot.Align || at+w > slot.Size {
			w /= 2
		}
		pointer := w == 4 && g.Intn(4) == 0
		if g.Intn(4) > 0 {
			g.parts = append(g.parts, part{s, at, w, pointer})
		}
		if w > 1 && !pointer && g.strays() {
			g.parts = append(g.parts, part{s, at + w/2, w / 2, false})
		}
		at += w
	}
}

// address makes a new address of a slot.
func (g *grower) address(s int) home {
	h := home{s, g.Intn(g.f.Slots[s].Size + 1), g.f.Temps}
	g.f.Temps++
	g.add(api.Ins{Op: api.TacSlot, D: h.temp, N: s, Off: h.at})
	return h
}

// way is how a part is come to: an address, and what is between that and the part.
func (g *grower) way(a part) (api.Arg, int) {
	h := g.homes[g.Intn(len(g.homes))]
	for h.slot != a.slot {
		h = g.homes[g.Intn(len(g.homes))]
	}
	if g.Intn(4) == 0 {
		h = g.address(a.slot)
	}
	if g.strays() {
		return g.elsewhere(h, a), 0
	}
	return tmp(h.temp), a.at - h.at
}

// elsewhere is an operand that leads to a part by an address that is not kept.
func (g *grower) elsewhere(h home, a part) api.Arg {
	s := tmp(scratch)
	switch g.Intn(7) {
	case 0:
		g.add(api.Ins{Op: api.TacMov, D: scratch, A: tmp(h.temp)})
		g.add(api.Ins{Op: api.TacBin, Bin: api.OpAdd, D: scratch, A: s, B: num(uint32(a.at - h.at))})
	case 1:
		g.add(api.Ins{Op: api.TacBin, Bin: api.OpSub, D: scratch, A: tmp(h.temp), B: num(uint32(h.at - a.at))})
	case 2:
		g.add(api.Ins{Op: api.TacSlot, D: h.temp, N: a.slot, Off: a.at})
		g.add(api.Ins{Op: api.TacMov, D: scratch, A: tmp(h.temp)})
		g.add(api.Ins{Op: api.TacSlot, D: h.temp, N: a.slot, Off: h.at})
	case 3: // by way of an object
		g.add(api.Ins{Op: api.TacSlot, D: scratch, N: a.slot, Off: a.at})
		g.add(api.Ins{Op: api.TacStore, D: -1, A: tmp(firstPointer), B: s, Off: 8, Width: 4})
		g.add(api.Ins{Op: api.TacLoad, D: scratch, A: tmp(firstPointer), Off: 8, Width: 4})
		g.add(api.Ins{Op: api.TacStore, D: -1, A: tmp(firstPointer), B: num(7), Off: 8, Width: 4})
	case 4:
		g.add(api.Ins{Op: api.TacBranch, D: -1, A: tmp(h.temp), N: len(g.f.Code) + 1})
		g.add(api.Ins{Op: api.TacSlot, D: scratch, N: a.slot, Off: a.at})
	case 5:
		g.add(api.Ins{Op: api.TacBin, Bin: api.OpEq, D: g.target(), A: tmp(h.temp), B: tmp(h.temp)})
		g.add(api.Ins{Op: api.TacSlot, D: scratch, N: a.slot, Off: a.at})
	case 6:
		g.add(api.Ins{Op: api.TacSlot, D: 1, N: a.slot, Off: a.at})
		g.add(api.Ins{Op: api.TacMov, D: scratch, A: tmp(1)})
		g.add(api.Ins{Op: api.TacGlobal, D: 1, N: g.Intn(2)})
	}
	return s
}

// target is a temporary for a number; number an operand that has one; pointer one that points to an object's beginning.
func (g *grower) target() int { return firstNumber + g.Intn(firstPointer-firstNumber) }

func (g *grower) number() api.Arg {
	if g.Intn(3) == 0 {
		return num(one(g, 0, 1, 2, 127, 128, 255, 256, 32768, 65535, 65536, 1<<31, 1<<32-1, g.Uint32()))
	}
	return tmp(g.target())
}

func (g *grower) pointer() api.Arg { return tmp(one(g, 1, firstPointer, firstPointer+1)) }

// store stores in a part; load loads it, and puts it out, mostly.
func (g *grower) store(a part) {
	v := g.number()
	if a.pointer != g.dares() {
		v = g.pointer()
	}
	to, off := g.way(a)
	g.add(api.Ins{Op: api.TacStore, D: -1, A: to, B: v, Off: off, Width: a.width})
}

func (g *grower) load(a part) {
	from, off := g.way(a)
	x := api.Ins{Op: api.TacLoad, D: g.target(), A: from, Off: off, Width: a.width, Signed: a.width < 4 && g.Intn(2) == 0}
	if a.pointer {
		x.D = firstPointer
	}
	if g.dares() {
		x.Off, x.Width, x.Signed = x.Off+g.Intn(3)-1, one(g, 1, 2), g.Intn(2) == 0
	}
	g.add(x)
	if !a.pointer && g.Intn(3) > 0 {
		g.put(tmp(x.D))
	}
}

// put puts all of a number out, by its bytes.
func (g *grower) put(a api.Arg) {
	g.add(api.Ins{Op: api.TacPut, D: -1, A: a})
	d := g.target()
	for _, bits := range []uint32{8, 16, 24}[:g.Intn(4)] {
		g.add(api.Ins{Op: api.TacBin, Bin: api.OpShrU, D: d, A: a, B: num(bits)})
		g.add(api.Ins{Op: api.TacPut, D: -1, A: tmp(d)})
		if a == tmp(d) {
			return
		}
	}
}

// block grows so many statements.
func (g *grower) block(n int) {
	for range n {
		g.statement()
	}
}

// statement grows what does something.
func (g *grower) statement() {
	if len(g.parts) > 0 && g.Intn(2) == 0 {
		one(g, g.store, g.load, g.load)(g.parts[g.Intn(len(g.parts))])
		return
	}
	switch g.Intn(9) {
	case 0:
		g.reckon()
	case 1:
		g.put(g.number())
	case 2:
		g.add(api.Ins{Op: api.TacGet, D: g.target()})
	case 3, 4: // a branch over a block
		at := len(g.f.Code)
		g.add(api.Ins{Op: api.TacBranch, D: -1, A: g.number()})
		g.block(g.Intn(4))
		g.f.Code[at].N = len(g.f.Code)
	case 5:
		g.loop()
	case 6:
		g.call()
	case 7:
		g.unreached()
	case 8:
		g.object()
	}
}

// reckon reckons with numbers.
func (g *grower) reckon() {
	x := api.Ins{Op: api.TacBin, Bin: api.BinOp(1 + g.Intn(19)), D: g.target(), A: g.number(), B: g.number()}
	if x.Bin >= api.OpDivS && x.Bin <= api.OpRemU && g.Intn(3) > 0 {
		x.B = num(uint32(1 + g.Intn(300)))
	}
	g.add(x)
}

// loop grows a block that is done a few times.
func (g *grower) loop() {
	if g.loops > 0 {
		return
	}
	g.loops++
	g.add(api.Ins{Op: api.TacMov, D: counter, A: num(uint32(1 + g.Intn(4)))})
	at := len(g.f.Code)
	g.block(1 + g.Intn(5))
	g.add(api.Ins{Op: api.TacBin, Bin: api.OpSub, D: counter, A: tmp(counter), B: num(1)})
	g.add(api.Ins{Op: api.TacBranch, D: -1, A: tmp(counter), N: at})
	g.loops--
}

// call calls a function, the own one only so deep as the first parameter tells.
func (g *grower) call() {
	n := g.Intn(g.own + 1)
	if n == g.p.Main {
		return
	}
	x := api.Ins{Op: api.TacCall, D: -1, N: n, Args: []api.Arg{num(uint32(g.Intn(3))), g.pointer()}}
	if g.p.Funcs[n].Gives && g.Intn(4) > 0 {
		x.D = g.target()
	}
	if n < g.own {
		g.add(x)
		return
	}
	d := g.target()
	g.add(api.Ins{Op: api.TacBin, Bin: api.OpEq, D: d, A: tmp(0), B: num(0)})
	g.add(api.Ins{Op: api.TacBranch, D: -1, A: tmp(d), N: len(g.f.Code) + 3})
	g.add(api.Ins{Op: api.TacBin, Bin: api.OpSub, D: d, A: tmp(0), B: num(1)})
	x.Args[0] = tmp(d)
	g.add(x)
}

// unreached grows instructions that nothing leads to, of which some have slots escape.
func (g *grower) unreached() {
	at := len(g.f.Code)
	g.add(api.Ins{Op: api.TacJump, D: -1})
	for range g.Intn(4) {
		t := one(g, g.target(), counter, scratch)
		if g.strays() {
			t = g.Intn(g.f.Temps)
		}
		switch g.Intn(6) {
		case 0:
			g.reckon()
		case 1:
			g.add(api.Ins{Op: api.TacPut, D: -1, A: tmp(t)})
		case 2:
			g.add(api.Ins{Op: api.TacMov, D: t, A: g.number()})
		case 3:
			g.add(api.Ins{Op: api.TacJump, D: -1, N: g.Intn(len(g.f.Code))})
		case 4:
			g.add(api.Ins{Op: api.TacLoad, D: g.target(), A: tmp(t), Off: g.Intn(20) - 4, Width: one(g, 1, 2, 4)})
		case 5:
			g.add(api.Ins{Op: api.TacStore, D: -1, A: tmp(t), B: tmp(t), Off: g.Intn(20) - 4, Width: one(g, 1, 2, 4)})
		}
	}
	g.f.Code[at].N = len(g.f.Code)
}

// object reads or writes an object, or the difference of two pointers.
func (g *grower) object() {
	p, off := g.pointer(), 4*g.Intn(2)
	switch g.Intn(3) {
	case 0:
		g.add(api.Ins{Op: api.TacStore, D: -1, A: p, B: g.number(), Off: off, Width: one(g, 1, 2, 4)})
	case 1:
		g.add(api.Ins{Op: api.TacLoad, D: g.target(), A: p, Off: off, Width: one(g, 1, 2, 4)})
	case 2:
		g.add(api.Ins{Op: api.TacBin, Bin: one(g, api.OpEq, api.OpNe), D: g.target(), A: p, B: g.pointer()})
	}
}

// end grows a function's last instruction.
func (g *grower) end() {
	switch {
	case g.own == g.p.Main && g.Intn(2) == 0:
		g.add(api.Ins{Op: api.TacExit, D: -1, A: g.number()})
	case g.f.Gives:
		g.add(api.Ins{Op: api.TacRet, D: -1, A: g.number()})
	default:
		g.add(api.Ins{Op: api.TacRet, D: -1})
	}
}

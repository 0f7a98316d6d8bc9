package tacrun

import (
	"fmt"
	"math/rand"

	"mortise/api"
)

// The temporaries of a grown function, behind its parameters (a number and a pointer to an object's beginning): numbers, such pointers, pointers somewhere else in an object, one that counts rounds, and some that are not set at first.
const (
	firstNumber  = 2
	firstPointer = 6
	firstInner   = 9
	counter      = 11
	firstUnset   = 12
	grownTemps   = 15
)

// grower grows programs, most of whose runs go on for a while. Every object and every slot has numbers in bytes 0 to 11 and a pointer to another one's beginning in bytes 12 to 15, and often more behind them.
type grower struct {
	*rand.Rand
	wild int // of so many instructions one is any that layer 13 takes; 0: none is
	p    api.TacProg
	f    *api.TacFunc
	own  int // the number of f
}

// one is one of some things.
func one[T any](g *grower, list ...T) T { return list[g.Intn(len(list))] }

// tmp is the operand that is a temporary.
func tmp(n int) api.Arg { return api.Arg{Kind: api.ArgTemp, N: uint32(n)} }

// num is the operand that is a number.
func num(n uint32) api.Arg { return api.Arg{Kind: api.ArgConst, N: n} }

// size is that of an object or a slot.
func (g *grower) size() int { return 16 + one(g, 0, 0, 1, 4, 8, 30) }

// program grows a program.
func (g *grower) program() api.TacProg {
	g.p = api.TacProg{}
	for i := range 1 + g.Intn(3) {
		g.p.Objects = append(g.p.Objects, api.TacObject{Name: fmt.Sprint("g", i), Size: g.size(), Align: 4})
	}
	for i := range g.p.Objects {
		g.data(&g.p.Objects[i])
	}
	for i := range 2 + g.Intn(3) {
		f := api.TacFunc{Name: fmt.Sprint("f", i), Params: 2, Temps: grownTemps, Gives: g.Intn(3) > 0}
		if i == 0 {
			f.Params = 0
		}
		for range g.Intn(3) {
			f.Slots = append(f.Slots, api.Slot{Size: g.size(), Align: 4})
		}
		g.p.Funcs = append(g.p.Funcs, f)
	}
	for i := range g.p.Funcs {
		g.own, g.f = i, &g.p.Funcs[i]
		g.code()
	}
	return g.p
}

// data fills an object.
func (g *grower) data(o *api.TacObject) {
	o.Data.Bytes = make([]byte, o.Size)
	for i := range o.Data.Bytes {
		if i < 12 || i > 15 {
			o.Data.Bytes[i] = one(g, 0, 1, 2, 200, byte(g.Intn(256)))
		}
	}
	o.Data.Relocs = []api.Reloc{{Off: 12, Global: g.Intn(len(g.p.Objects))}}
	if o.Size >= 24 && g.Intn(2) == 0 {
		clear(o.Data.Bytes[20:24])
		n := g.Intn(len(g.p.Objects))
		o.Data.Relocs = append(o.Data.Relocs, api.Reloc{Off: 20, Global: n, Add: g.Intn(g.p.Objects[n].Size + 1)})
	}
}

// add lays an instruction down.
func (g *grower) add(x api.Ins) { g.f.Code = append(g.f.Code, x) }

// number is an operand that has a number; pointer one that points to a beginning.
func (g *grower) number() api.Arg {
	if g.f.Params > 0 && g.Intn(6) == 0 {
		return tmp(0)
	}
	if g.Intn(3) == 0 {
		return num(one(g, 0, 1, 2, 3, 7, 255, 256, 1<<31, 1<<32-1, g.Uint32()))
	}
	return tmp(firstNumber + g.Intn(firstPointer-firstNumber))
}

func (g *grower) pointer() api.Arg {
	if g.f.Params > 0 && g.Intn(6) == 0 {
		return tmp(1)
	}
	return tmp(firstPointer + g.Intn(firstInner-firstPointer))
}

// target is a temporary for a number; pointerTarget one for a pointer to a beginning.
func (g *grower) target() int { return firstNumber + g.Intn(firstPointer-firstNumber) }

func (g *grower) pointerTarget() int { return firstPointer + g.Intn(firstInner-firstPointer) }

// beginning makes a temporary point to the beginning of an object or a slot.
func (g *grower) beginning(d int) {
	x := api.Ins{Op: api.TacGlobal, D: d, N: g.Intn(len(g.p.Objects))}
	if len(g.f.Slots) > 0 && g.Intn(2) == 0 {
		x = api.Ins{Op: api.TacSlot, D: d, N: g.Intn(len(g.f.Slots))}
	}
	g.add(x)
}

// head gives slots and temporaries what they have at first.
func (g *grower) head() {
	for i := range g.f.Slots {
		g.add(api.Ins{Op: api.TacSlot, D: firstPointer, N: i})
		g.add(api.Ins{Op: api.TacGlobal, D: firstPointer + 1, N: g.Intn(len(g.p.Objects))})
		g.add(api.Ins{Op: api.TacCopy, D: -1, A: tmp(firstPointer), B: tmp(firstPointer + 1), Off: 16, Width: one(g, 1, 2, 4, 4)})
	}
	for d := firstNumber; d < firstPointer; d++ {
		g.add(api.Ins{Op: api.TacMov, D: d, A: num(uint32(g.Intn(9)))})
	}
	for d := firstPointer; d < firstInner; d++ {
		g.beginning(d)
	}
	for d := firstInner; d < counter; d++ {
		g.add(api.Ins{Op: api.TacBin, Bin: api.OpAdd, D: d, A: g.pointer(), B: num(uint32(4 * g.Intn(4)))})
	}
	g.add(api.Ins{Op: api.TacMov, D: counter, A: num(uint32(g.Intn(4)))})
}

// code grows a function's code: its head, its body, with branches to places behind them, rounds back that are counted, and its end.
func (g *grower) code() {
	g.head()
	first := len(g.f.Code)
	for range 4 + g.Intn(16) {
		if g.wild > 0 && g.Intn(g.wild) == 0 {
			g.any()
		} else {
			g.tame()
		}
	}
	if g.Intn(2) == 0 {
		g.add(api.Ins{Op: api.TacBin, Bin: api.OpSub, D: counter, A: tmp(counter), B: num(1)})
		g.add(api.Ins{Op: api.TacBin, Bin: api.OpLtS, D: firstNumber, A: num(0), B: tmp(counter)})
		g.add(api.Ins{Op: api.TacBranch, D: -1, A: tmp(firstNumber), N: first + g.Intn(len(g.f.Code)-first)})
	}
	g.last()
	for i, x := range g.f.Code {
		if (x.Op == api.TacBranch || x.Op == api.TacJump) && x.N < 0 {
			g.f.Code[i].N = i + 1 + g.Intn(len(g.f.Code)-i-1)
		}
	}
}

// last lays the last instruction down.
func (g *grower) last() {
	if g.own == 0 && g.Intn(4) == 0 {
		g.add(api.Ins{Op: api.TacExit, D: -1, A: g.number()})
		return
	}
	x := api.Ins{Op: api.TacRet, D: -1}
	if g.f.Gives {
		x.A = g.number()
	}
	g.add(x)
}

// tame lays an instruction down that mostly goes well. A branch that leads to -1 gets a place behind it when all of the code is there.
func (g *grower) tame() {
	switch g.Intn(16) {
	case 0, 1, 2:
		x := api.Ins{Op: api.TacBin, Bin: api.BinOp(1 + g.Intn(19)), D: g.target(), A: g.number(), B: g.number()}
		if x.Bin >= api.OpDivS && x.Bin <= api.OpRemU && g.Intn(5) > 0 {
			x.B = num(1 + g.Uint32()>>1)
		}
		g.add(x)
	case 3:
		g.add(api.Ins{Op: api.TacMov, D: g.target(), A: g.number()})
	case 4:
		g.add(api.Ins{Op: api.TacMov, D: g.pointerTarget(), A: g.pointer()})
	case 5:
		g.beginning(g.pointerTarget())
	case 6, 7:
		width := one(g, 1, 2, 4)
		g.add(api.Ins{Op: api.TacLoad, D: g.target(), A: g.pointer(), Off: width * g.Intn(12/width), Width: width, Signed: width < 4 && g.Intn(2) == 0})
	case 8:
		g.add(api.Ins{Op: api.TacLoad, D: g.pointerTarget(), A: g.pointer(), Off: 12, Width: 4})
	case 9, 10:
		width := one(g, 1, 2, 4)
		g.add(api.Ins{Op: api.TacStore, D: -1, A: g.pointer(), B: g.number(), Off: width * g.Intn(12/width), Width: width})
	case 11:
		g.add(one(g, api.Ins{Op: api.TacPut, D: -1, A: g.number()}, api.Ins{Op: api.TacGet, D: g.target()}))
	case 12:
		g.add(api.Ins{Op: one(g, api.TacBranch, api.TacBranch, api.TacBranch, api.TacJump), D: -1, N: -1})
		if x := &g.f.Code[len(g.f.Code)-1]; x.Op == api.TacBranch {
			x.A = one(g, g.number(), g.number(), g.pointer())
		}
	case 13:
		g.tamePointers()
	default:
		g.call()
	}
}

// tamePointers lays an instruction with two pointers down, or one that stores or copies a pointer.
func (g *grower) tamePointers() {
	switch g.Intn(5) {
	case 0:
		g.add(api.Ins{Op: api.TacBin, Bin: one(g, api.OpEq, api.OpNe), D: g.target(), A: g.pointer(), B: one(g, g.pointer(), num(0))})
	case 1:
		p := g.pointer()
		g.add(api.Ins{Op: api.TacBin, Bin: api.OpAdd, D: firstInner, A: p, B: num(uint32(g.Intn(17)))})
		g.add(api.Ins{Op: api.TacBin, Bin: one(g, api.OpSub, api.OpLtS, api.OpLtU, api.OpLeS, api.OpLeU, api.OpEq), D: g.target(), A: tmp(firstInner), B: p})
	case 2:
		g.add(api.Ins{Op: api.TacBin, Bin: api.OpAdd, D: firstInner, A: g.pointer(), B: num(8)})
		g.add(api.Ins{Op: api.TacLoad, D: g.target(), A: tmp(firstInner), Off: one(g, -8, -6, -4, -2, 0, 2), Width: one(g, 1, 2)})
	case 3:
		g.add(api.Ins{Op: api.TacStore, D: -1, A: g.pointer(), B: g.pointer(), Off: 12, Width: 4})
	case 4:
		g.add(api.Ins{Op: api.TacCopy, D: -1, A: g.pointer(), B: g.pointer(), Off: one(g, 4, 12, 16, 16), Width: one(g, 1, 2, 4)})
	}
}

// call lays a call of a function behind this one down; at times of any that takes two arguments, so that calls go deep.
func (g *grower) call() {
	n := g.own + 1
	if n == len(g.p.Funcs) || g.wild > 0 && g.Intn(g.wild) == 0 {
		n = 1
		if g.own != 0 && (g.wild == 0 || g.Intn(2) == 0) {
			g.add(api.Ins{Op: api.TacMov, D: firstUnset, A: one(g, g.number(), g.pointer(), tmp(firstUnset+1))})
			return
		}
	}
	x := api.Ins{Op: api.TacCall, D: -1, N: n, Args: []api.Arg{g.number(), g.pointer()}}
	if g.p.Funcs[n].Gives && g.Intn(4) > 0 {
		x.D = g.target()
	}
	g.add(x)
}

// operand is any operand.
func (g *grower) operand() api.Arg {
	if g.Intn(4) == 0 {
		return g.number()
	}
	return tmp(g.Intn(grownTemps))
}

// any lays any instruction down that layer 13 takes.
func (g *grower) any() {
	x := api.Ins{Op: api.TacOp(1 + g.Intn(14)), D: -1}
	switch x.Op {
	case api.TacMov, api.TacBin, api.TacSlot, api.TacGlobal, api.TacLoad, api.TacGet:
		x.D = g.Intn(grownTemps)
	}
	switch x.Op {
	case api.TacMov, api.TacPut, api.TacExit:
		x.A = g.operand()
	case api.TacBin:
		x.Bin, x.A, x.B = api.BinOp(1+g.Intn(19)), g.operand(), g.operand()
	case api.TacSlot:
		if len(g.f.Slots) == 0 {
			return
		}
		x.N = g.Intn(len(g.f.Slots))
		x.Off = g.Intn(g.f.Slots[x.N].Size + 1)
	case api.TacGlobal:
		x.N = g.Intn(len(g.p.Objects))
		x.Off = g.Intn(g.p.Objects[x.N].Size + 1)
	case api.TacLoad, api.TacStore:
		x.A, x.Off, x.Width = g.operand(), g.Intn(40)-20, one(g, 1, 2, 4)
		if x.Op == api.TacStore {
			x.B = g.operand()
		} else {
			x.Signed = x.Width < 4 && g.Intn(2) == 0
		}
	case api.TacCopy:
		x.A, x.B, x.Width = g.operand(), g.operand(), one(g, 1, 2, 4)
		x.Off = x.Width * (1 + g.Intn(4))
	case api.TacBranch:
		x.A, x.N = g.operand(), g.Intn(len(g.f.Code)+1)
	case api.TacJump:
		x.N = -1
	case api.TacRet:
		if g.f.Gives {
			x.A = g.operand()
		}
	case api.TacCall:
		g.anyCall(&x)
	}
	g.add(x)
}

// anyCall makes an instruction a call of any function.
func (g *grower) anyCall(x *api.Ins) {
	x.N = g.Intn(len(g.p.Funcs))
	for range g.p.Funcs[x.N].Params {
		x.Args = append(x.Args, g.operand())
	}
	if g.p.Funcs[x.N].Gives && g.Intn(3) > 0 {
		x.D = g.Intn(grownTemps)
	}
}

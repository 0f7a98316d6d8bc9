package tacrun

import (
	"mortise/api"
	"mortise/memory"
	"mortise/word"
)

// machine runs one program, which tac.Check takes.
type machine struct {
	prog         api.TacProg
	instructions []func(c *call, x *api.Ins) // what each of them does, at the number of its Op
	memory       *memory.Memory
	live         int                  // how many blocks the objects and the slots of all calls that go on have
	begun        int                  // how many calls were begun
	deep         int                  // how many calls go on
	rooms        [api.MaxCalls][]temp // for the temporaries of those calls, the outermost one's first
	input        []byte               // what was not read yet
	out          []byte
	fuel         int
	steps        int
}

// newMachine makes a machine that has not begun yet.
func newMachine(p api.TacProg, input []byte, fuel int) *machine {
	return &machine{prog: p, instructions: instructions(), memory: memory.New(), input: input, fuel: fuel}
}

// end is what a run panics with when it ends.
type end struct {
	stop api.Stop
	code int
}

// run does the whole run. Nothing but an end comes up from a program that tac.Check takes.
func (m *machine) run() (o api.Outcome) {
	defer func() {
		e, _ := recover().(end)
		o = api.Outcome{Stop: e.stop, Code: e.code, Out: m.out, Steps: m.steps}
	}()
	m.layObjects()
	main := m.begin(m.prog.Main)
	v := main.run()
	if !main.function.Gives {
		v = number(0)
	}
	exit(v)
	return o
}

// exit ends the run by an exit.
func exit(v api.Val) {
	panic(end{stop: api.StopExit, code: word.Int(numberOf(v))})
}

// heed ends the run, if there is a reason to.
func heed(s api.Stop) {
	if s != 0 {
		panic(end{stop: s})
	}
}

// number is a number as a value.
func number(v uint32) api.Val { return api.Val{Kind: api.ValNum, V: v} }

// numberOf is the number that a value must be.
func numberOf(v api.Val) uint32 {
	if v.Kind != api.ValNum {
		heed(api.StopUndef)
	}
	return v.V
}

// pointer points to a byte of a block.
func pointer(block, off int) api.Val {
	return api.Val{Kind: api.ValPtr, V: word.Of(off), Block: block}
}

// spend takes steps.
func (m *machine) spend(n int) {
	if n > m.fuel-m.steps {
		m.steps = m.fuel
		heed(api.StopFuel)
	}
	m.steps += n
}

// objectBlock is the block of object number n, which is made behind those of the objects ahead of it.
func objectBlock(n int) int { return n + 1 }

// layObjects makes the objects' blocks, and gives them what they have at first.
func (m *machine) layObjects() {
	for i, o := range m.prog.Objects {
		m.memory.Make(o.Size, o.Align)
		m.layData(objectBlock(i), o.Data)
	}
	m.live = len(m.prog.Objects)
}

// layData gives a block its bytes and its addresses.
func (m *machine) layData(block int, d api.Data) {
	heed(m.memory.Zero(pointer(block, 0), len(d.Bytes)))
	for i, b := range d.Bytes {
		if b != 0 {
			heed(m.memory.Store(pointer(block, i), 1, number(uint32(b))))
		}
	}
	for _, r := range d.Relocs {
		to := pointer(objectBlock(r.Global), r.Add)
		heed(m.memory.Store(pointer(block, r.Off), word.Width(api.TPtr), to))
	}
}

package tacrun

import (
	"mortise/api"
	"mortise/word"
)

// instructions tells for each Op what does its instructions.
func instructions() []func(c *call, x *api.Ins) {
	return []func(c *call, x *api.Ins){
		api.TacMov:    (*call).move,
		api.TacBin:    (*call).reckon,
		api.TacSlot:   (*call).pointToSlot,
		api.TacGlobal: (*call).pointToObject,
		api.TacLoad:   (*call).load,
		api.TacStore:  (*call).store,
		api.TacCopy:   (*call).copyBytes,
		api.TacCall:   (*call).callFunction,
		api.TacRet:    (*call).giveBack,
		api.TacJump:   (*call).jump,
		api.TacBranch: (*call).branch,
		api.TacPut:    (*call).put,
		api.TacGet:    (*call).get,
		api.TacExit:   (*call).exit,
	}
}

// stepsOf is how many steps an instruction takes.
func stepsOf(x *api.Ins) int {
	if x.Op == api.TacCopy {
		return 1 + x.Off
	}
	return 1
}

// move does a TacMov.
func (c *call) move(x *api.Ins) { c.set(x.D, c.value(x.A)) }

// reckon does a TacBin.
func (c *call) reckon(x *api.Ins) {
	v, stop := c.memory.Bin(x.Bin, c.value(x.A), c.value(x.B))
	heed(stop)
	c.set(x.D, v)
}

// pointToSlot does a TacSlot.
func (c *call) pointToSlot(x *api.Ins) { c.set(x.D, pointer(c.slotBlock(x.N), x.Off)) }

// pointToObject does a TacGlobal.
func (c *call) pointToObject(x *api.Ins) { c.set(x.D, pointer(objectBlock(x.N), x.Off)) }

// moved is A moved by Off. Of a number that is a number, at which nothing can be loaded or stored.
func (c *call) moved(x *api.Ins) api.Val {
	v, stop := c.memory.Bin(api.OpAdd, c.value(x.A), number(word.Of(x.Off)))
	heed(stop)
	return v
}

// load does a TacLoad.
func (c *call) load(x *api.Ins) {
	v, stop := c.memory.Load(c.moved(x), x.Width, x.Signed)
	heed(stop)
	c.set(x.D, v)
}

// store does a TacStore.
func (c *call) store(x *api.Ins) { heed(c.memory.Store(c.moved(x), x.Width, c.value(x.B))) }

// copyBytes does a TacCopy.
func (c *call) copyBytes(x *api.Ins) {
	heed(c.memory.Copy(c.value(x.A), c.value(x.B), x.Off, x.Width))
}

// callFunction does a TacCall.
func (c *call) callFunction(x *api.Ins) {
	inner := c.begin(x.N)
	for i, a := range x.Args {
		inner.set(i, c.value(a))
	}
	v := inner.run()
	if x.D >= 0 {
		c.set(x.D, v)
	}
}

// giveBack does a TacRet.
func (c *call) giveBack(x *api.Ins) {
	if c.function.Gives {
		c.result = c.value(x.A)
	}
	c.over = true
}

// jump does a TacJump.
func (c *call) jump(x *api.Ins) { c.next = x.N }

// branch does a TacBranch.
func (c *call) branch(x *api.Ins) {
	yes, stop := c.memory.Truth(c.value(x.A))
	heed(stop)
	if yes {
		c.next = x.N
	}
}

// put does a TacPut.
func (c *call) put(x *api.Ins) { c.out = append(c.out, byte(numberOf(c.value(x.A)))) }

// get does a TacGet.
func (c *call) get(x *api.Ins) {
	if len(c.input) == 0 {
		c.set(x.D, number(word.Of(-1)))
		return
	}
	c.set(x.D, number(uint32(c.input[0])))
	c.input = c.input[1:]
}

// exit does a TacExit.
func (c *call) exit(x *api.Ins) { exit(c.value(x.A)) }

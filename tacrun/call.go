package tacrun

import "mortise/api"

// call is a call that goes on.
type call struct {
	*machine
	serial   int // from 1 on, in the order in which calls begin
	function *api.TacFunc
	temps    []temp
	blocks   []int // of the slots; 0: it was not asked for yet
	next     int   // the instruction that is done next
	over     bool
	result   api.Val // what it returns; not set, if that is nothing
}

// temp is the room of a temporary: what was written there last, and the serial of the call that did. Calls of one depth share their rooms, which need not be cleared so: what another call wrote is not set.
type temp struct {
	value api.Val
	call  int
}

// begin begins a call of function number n; its parameters are not set yet.
func (m *machine) begin(n int) *call {
	f := &m.prog.Funcs[n]
	if m.deep == api.MaxCalls || m.live+len(f.Slots) > api.MaxBlocks {
		heed(api.StopDeep)
	}
	if len(m.rooms[m.deep]) < f.Temps {
		m.rooms[m.deep] = make([]temp, f.Temps)
	}
	m.begun++
	c := &call{machine: m, serial: m.begun, function: f, temps: m.rooms[m.deep], blocks: make([]int, len(f.Slots))}
	m.live += len(f.Slots)
	m.deep++
	return c
}

// run does a call's instructions until it ends, and answers what it returned.
func (c *call) run() api.Val {
	for !c.over {
		x := &c.function.Code[c.next]
		c.next++
		c.spend(stepsOf(x))
		c.instructions[x.Op](c, x)
	}
	c.leave()
	return c.result
}

// leave ends what lives no longer than the call.
func (c *call) leave() {
	for _, block := range c.blocks {
		if block != 0 {
			c.memory.End(block)
		}
	}
	c.live -= len(c.blocks)
	c.deep--
}

// slotBlock is the block of slot number n. It is made when it is first asked for: ahead of that nothing can be told of it, and a call that asks for few of many slots would take long for one step. That there is room for it, was made sure of as the call began.
func (c *call) slotBlock(n int) int {
	if c.blocks[n] == 0 {
		s := c.function.Slots[n]
		c.blocks[n], _ = c.memory.Make(s.Size, s.Align)
	}
	return c.blocks[n]
}

// set gives a temporary a value, which may be one that is not set.
func (c *call) set(d int, v api.Val) { c.temps[d] = temp{v, c.serial} }

// value is what an operand has. What is not set has the kind ValNone: to hand it on is all that can be done with it, since layer 11 calls all else undefined, and it is no number.
func (c *call) value(a api.Arg) api.Val {
	if a.Kind == api.ArgConst {
		return number(a.N)
	}
	t := c.temps[a.N]
	if t.call != c.serial {
		return api.Val{}
	}
	return t.value
}

package model

import (
	"mortise/api"
	"mortise/word"
)

// call is a call that goes on: its locals' types, the blocks that they have (0: none), and what it returns.
type call struct {
	types  []int
	blocks []int
	result value
}

// newBlock makes a block for a shape, none of whose bytes is set.
func (m *machine) newBlock(s shape) api.Val {
	n, err := m.memory.Make(s.size, s.align)
	want(err == api.OK)
	return pointerTo(n)
}

// pointerTo points to a block's first byte.
func pointerTo(block int) api.Val { return api.Val{Kind: api.ValPtr, Block: block} }

// globalAt points to global number n, whose block is made behind those of the globals ahead of it.
func globalAt(n int) api.Val { return pointerTo(n + 1) }

// layGlobals makes the globals' blocks, and gives them what they have at first.
func (m *machine) layGlobals() {
	for _, g := range m.prog.Globals {
		m.newBlock(m.shape(g.Type))
	}
	for n, g := range m.prog.Globals {
		m.layData(n, g)
	}
}

// layData gives the global number n its bytes and its addresses.
func (m *machine) layData(n int, g api.Global) {
	at := globalAt(n)
	heed(m.memory.Zero(at, m.shape(g.Type).size))
	for i, b := range g.Data.Bytes {
		if b != 0 {
			heed(m.memory.Store(further(at, i), 1, number(uint32(b))))
		}
	}
	for _, r := range g.Data.Relocs {
		to := further(globalAt(r.Global), r.Add)
		heed(m.memory.Store(further(at, r.Off), word.Width(api.TPtr), to))
	}
}

// call calls function number n, and answers its value.
func (m *machine) call(n int, args []value) value {
	f := &m.prog.Funcs[n]
	if len(m.calls) == api.MaxCalls || m.locals+len(f.Locals) > api.MaxLive {
		heed(api.StopDeep)
	}
	c := &call{types: f.Locals, blocks: make([]int, len(f.Locals))}
	m.calls = append(m.calls, c)
	m.locals += len(f.Locals)
	for i, v := range args {
		m.setParameter(i, v)
	}
	m.statement(&f.Body)
	m.locals -= len(f.Locals)
	m.calls = m.calls[:len(m.calls)-1]
	for _, block := range c.blocks {
		m.memory.End(block) // no block has the number 0
	}
	return c.result
}

// innermost is the call in which one is.
func (m *machine) innermost() *call { return m.calls[len(m.calls)-1] }

// localShape is the shape of local number n.
func (m *machine) localShape(n int) shape { return m.shape(m.innermost().types[n]) }

// setParameter gives parameter number i its block and its value.
func (m *machine) setParameter(i int, v value) {
	s := m.localShape(i)
	m.spendBytes(s)
	m.put(place{at: m.renew(i), is: s}, v)
}

// renew ends the block of local number n, if it has one, and makes a new one, none of whose bytes is set.
func (m *machine) renew(n int) api.Val {
	blocks := m.innermost().blocks
	m.memory.End(blocks[n])
	p := m.newBlock(m.localShape(n))
	blocks[n] = p.Block
	return p
}

// zeroed takes a step for each byte of local number n, and gives it a new block, all of whose bytes are 0.
func (m *machine) zeroed(n int) api.Val {
	size := m.localShape(n).size
	m.spend(size)
	p := m.renew(n)
	heed(m.memory.Zero(p, size))
	return p
}

// localAt points to local number n.
func (m *machine) localAt(n int) api.Val { return pointerTo(m.innermost().blocks[n]) }

package model

import (
	"mortise/api"
	"mortise/word"
)

// node does a node of an expression: a value, or a place, whose value is a pointer.
func (m *machine) node(x *api.Tree) value {
	do, known := m.nodes[x.Kind]
	m.begin()
	want(known)
	v := do(x)
	m.deep--
	return v
}

// scalar does a node that is a scalar or a place, and takes it at once: for those that have no other part to do first.
func (m *machine) scalar(x *api.Tree) api.Val { return m.node(x).taken().scalar }

// pair does two nodes, the left one first. Neither is taken ahead of the other: the right one is done even if the left one has nothing.
func (m *machine) pair(x *api.Tree) (api.Val, api.Val) {
	a := m.node(&x.Sub[0])
	b := m.node(&x.Sub[1])
	return a.taken().scalar, b.taken().scalar
}

// holds does a node of which is asked whether it is not 0.
func (m *machine) holds(x *api.Tree) bool {
	yes, stop := m.memory.Truth(m.scalar(x))
	heed(stop)
	return yes
}

// nodeKinds tells for each kind of nodes what does them.
func (m *machine) nodeKinds() map[api.TreeKind]func(x *api.Tree) value {
	return map[api.TreeKind]func(x *api.Tree) value{
		api.TxConst:  func(x *api.Tree) value { return value{scalar: m.constant(x)} },
		api.TxLocal:  func(x *api.Tree) value { return value{scalar: m.localAt(x.Num)} },
		api.TxGlobal: func(x *api.Tree) value { return value{scalar: globalAt(x.Num)} },
		api.TxDeref:  func(x *api.Tree) value { return value{scalar: pointerOf(m.scalar(&x.Sub[0]))} },
		api.TxPart:   func(x *api.Tree) value { return value{scalar: m.part(x)} },
		api.TxLit:    func(x *api.Tree) value { return value{scalar: m.literal(x)} },
		api.TxRead:   func(x *api.Tree) value { return m.readNode(x) },
		api.TxSet:    func(x *api.Tree) value { return m.set(x) },
		api.TxUpdate: func(x *api.Tree) value { return m.update(x) },
		api.TxOld:    func(x *api.Tree) value { return m.old },
		api.TxAddr:   func(x *api.Tree) value { return value{scalar: m.scalar(&x.Sub[0])} },
		api.TxConv:   func(x *api.Tree) value { return value{scalar: m.convert(m.scalar(&x.Sub[0]), x.Type)} },
		api.TxBin: func(x *api.Tree) value {
			a, b := m.pair(x)
			return value{scalar: reckonNumbers(api.BinOp(x.Num), a, b)}
		},
		api.TxCmp: func(x *api.Tree) value {
			a, b := m.pair(x)
			return value{scalar: m.reckon(api.BinOp(x.Num), a, b)}
		},
		api.TxPtrAdd: func(x *api.Tree) value {
			p, n := m.pair(x)
			return value{scalar: m.moved(p, n, x.Num)}
		},
		api.TxDiff: func(x *api.Tree) value {
			p, q := m.pair(x)
			return value{scalar: m.between(p, q, x.Num)}
		},
		api.TxNot:   func(x *api.Tree) value { return truth(!m.holds(&x.Sub[0])) },
		api.TxAnd:   func(x *api.Tree) value { return truth(m.holds(&x.Sub[0]) && m.holds(&x.Sub[1])) },
		api.TxOr:    func(x *api.Tree) value { return truth(m.holds(&x.Sub[0]) || m.holds(&x.Sub[1])) },
		api.TxCond:  func(x *api.Tree) value { return m.cond(x) },
		api.TxComma: func(x *api.Tree) value { m.node(&x.Sub[0]); return m.node(&x.Sub[1]) },
		api.TxVoid:  func(x *api.Tree) value { m.node(&x.Sub[0]); return value{} },
		api.TxCall:  func(x *api.Tree) value { return m.callNode(x) },
		api.TxPut:   func(x *api.Tree) value { return value{scalar: m.putOut(m.scalar(&x.Sub[0]))} },
		api.TxGet:   func(x *api.Tree) value { return value{scalar: m.takeIn()} },
		api.TxExit:  func(x *api.Tree) value { m.exit(m.scalar(&x.Sub[0])); return value{} },
	}
}

// constant does a TxConst.
func (m *machine) constant(x *api.Tree) api.Val {
	kind := m.shape(x.Type).kind
	if kind == api.TPtr {
		return number(0)
	}
	return number(word.Convert(kind, word.Of(x.Num)))
}

// part does a TxPart.
func (m *machine) part(x *api.Tree) api.Val {
	whole := m.scalar(&x.Sub[0])
	return m.reckon(api.OpAdd, whole, number(word.Of(x.Num/offsetUnit)))
}

// literal does a TxLit.
func (m *machine) literal(x *api.Tree) api.Val {
	p := m.zeroed(x.Num)
	for i := range x.Sub {
		m.node(&x.Sub[i])
	}
	return p
}

// readNode does a TxRead. Its steps are taken as it begins, ahead of its place.
func (m *machine) readNode(x *api.Tree) value {
	m.spendBytes(m.shape(x.Sub[0].Type))
	return m.read(m.place(&x.Sub[0]))
}

// set does a TxSet. Its value is taken as it is put, behind the steps of its bytes.
func (m *machine) set(x *api.Tree) value {
	p := m.place(&x.Sub[0])
	v := m.node(&x.Sub[1])
	m.spendBytes(p.is)
	return m.put(p, v)
}

// update does a TxUpdate. A TxUpdate round it has its own TxOld again behind it.
func (m *machine) update(x *api.Tree) value {
	p := m.place(&x.Sub[0])
	had, outer := m.read(p), m.old
	m.old = had
	v := m.node(&x.Sub[1])
	m.old = outer
	has := m.put(p, v)
	if x.Num == behind {
		return had
	}
	return has
}

// behind is the Num of a TxUpdate whose value is what the place had.
const behind = 1

// cond does a TxCond. Its value may be nothing, as that of a TxComma may: whether it is taken is known to who asked for it.
func (m *machine) cond(x *api.Tree) value {
	if m.holds(&x.Sub[0]) {
		return m.node(&x.Sub[1])
	}
	return m.node(&x.Sub[2])
}

// callNode does a TxCall. Its arguments are taken as the parameters get them, when all of them are done and the call has begun.
func (m *machine) callNode(x *api.Tree) value {
	var args []value
	for i := range x.Sub {
		args = append(args, m.node(&x.Sub[i]))
	}
	return m.call(x.Num, args)
}

// putOut puts a byte out, and answers it.
func (m *machine) putOut(v api.Val) api.Val {
	b := byte(numberOf(v))
	m.out = append(m.out, b)
	return number(uint32(b))
}

// takeIn is the next byte of the input, or -1.
func (m *machine) takeIn() api.Val {
	if len(m.input) == 0 {
		return number(word.Of(-1))
	}
	b := m.input[0]
	m.input = m.input[1:]
	return number(uint32(b))
}

package model

import "mortise/api"

// way is a way in which a statement ends.
type way int

// The ways: what stands behind it is done next; or one is on the way out of a loop, to a loop's next round, or out of a function.
const (
	onward way = iota
	breaking
	continuing
	returning
)

// statement does a statement.
func (m *machine) statement(x *api.Tree) way {
	do, known := m.statements[x.Kind]
	m.begin()
	want(known)
	w := do(x)
	m.deep--
	return w
}

// statementKinds tells for each kind of statements what does them.
func (m *machine) statementKinds() map[api.TreeKind]func(x *api.Tree) way {
	return map[api.TreeKind]func(x *api.Tree) way{
		api.TsBlock:    func(x *api.Tree) way { return m.block(x) },
		api.TsExpr:     func(x *api.Tree) way { m.node(&x.Sub[0]); return onward },
		api.TsNone:     func(x *api.Tree) way { return onward },
		api.TsIf:       func(x *api.Tree) way { return m.choice(x) },
		api.TsWhile:    func(x *api.Tree) way { return m.while(x) },
		api.TsDo:       func(x *api.Tree) way { return m.do(x) },
		api.TsFor:      func(x *api.Tree) way { return m.loop(x) },
		api.TsBreak:    func(x *api.Tree) way { return breaking },
		api.TsContinue: func(x *api.Tree) way { return continuing },
		api.TsReturn:   func(x *api.Tree) way { return m.leave(x) },
		api.TsFresh:    func(x *api.Tree) way { m.renew(x.Num); return onward },
		api.TsZero:     func(x *api.Tree) way { m.zeroed(x.Num); return onward },
	}
}

// block does a TsBlock.
func (m *machine) block(x *api.Tree) way {
	for i := range x.Sub {
		if w := m.statement(&x.Sub[i]); w != onward {
			return w
		}
	}
	return onward
}

// choice does a TsIf.
func (m *machine) choice(x *api.Tree) way {
	switch {
	case m.holds(&x.Sub[0]):
		return m.statement(&x.Sub[1])
	case len(x.Sub) > 2:
		return m.statement(&x.Sub[2])
	}
	return onward
}

// round does a loop's statement once, and tells whether the loop goes on.
func (m *machine) round(body *api.Tree) (w way, again bool) {
	switch m.statement(body) {
	case breaking:
		return onward, false
	case returning:
		return returning, false
	}
	return onward, true
}

// while does a TsWhile.
func (m *machine) while(x *api.Tree) way {
	for m.holds(&x.Sub[0]) {
		if w, again := m.round(&x.Sub[1]); !again {
			return w
		}
	}
	return onward
}

// do does a TsDo.
func (m *machine) do(x *api.Tree) way {
	for {
		if w, again := m.round(&x.Sub[0]); !again {
			return w
		}
		if !m.holds(&x.Sub[1]) {
			return onward
		}
	}
}

// loop does a TsFor. A TsNone in the place of an expression is none: it takes no step.
func (m *machine) loop(x *api.Tree) way {
	asked, next := &x.Sub[1], &x.Sub[2]
	m.statement(&x.Sub[0])
	for asked.Kind == api.TsNone || m.holds(asked) {
		if w, again := m.round(&x.Sub[3]); !again {
			return w
		}
		if next.Kind != api.TsNone {
			m.node(next)
		}
	}
	return onward
}

// leave does a TsReturn.
func (m *machine) leave(x *api.Tree) way {
	if len(x.Sub) > 0 {
		m.innermost().result = m.node(&x.Sub[0]).taken()
	}
	return returning
}

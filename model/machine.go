package model

import (
	"mortise/api"
	"mortise/ctype"
	"mortise/layout"
	"mortise/memory"
	"mortise/word"
)

// machine runs one program.
type machine struct {
	prog       api.Prog
	types      *ctype.Table
	shapes     map[int]shape // of the types that were asked for
	memory     *memory.Memory
	nodes      map[api.TreeKind]func(x *api.Tree) value
	statements map[api.TreeKind]func(x *api.Tree) way
	calls      []*call // those that go on, the innermost one last
	locals     int     // how many the functions of these calls have together
	old        value   // what the place of the innermost TxUpdate had
	deep       int     // within how many nodes and statements one is
	input      []byte  // what was not read yet
	out        []byte
	fuel       int
	steps      int
}

// maxDeep is how deep nodes and statements may stand within each other in all calls together. Trees of layer 10 stay far below it, since those of layer 4 have MaxNest levels; others may go down without end.
const maxDeep = 4096 * api.MaxCalls

// newMachine makes a machine that has not begun yet.
func newMachine(p api.Prog, input []byte, fuel int) *machine {
	types, _ := ctype.From(p.Types) // of rows that are no table nothing has a size
	m := &machine{prog: p, types: types, shapes: map[int]shape{}, memory: memory.New(), input: input, fuel: fuel}
	m.nodes, m.statements = m.nodeKinds(), m.statementKinds()
	return m
}

// end is what a run panics with when it ends.
type end struct {
	stop api.Stop
	code int
}

// run does the whole run. What else may come up than an end does so in programs that layer 10 did not answer.
func (m *machine) run() (o api.Outcome) {
	defer func() {
		e, known := recover().(end)
		if !known {
			e = end{stop: api.StopUndef}
		}
		o = api.Outcome{Stop: e.stop, Code: e.code, Out: m.out, Steps: m.steps}
	}()
	m.layGlobals()
	v := m.call(m.prog.Main, nil)
	if v.isNothing() {
		v.scalar = number(0)
	}
	m.exit(v.scalar)
	return o
}

// exit ends the run by an exit.
func (m *machine) exit(v api.Val) {
	panic(end{stop: api.StopExit, code: word.Int(numberOf(v))})
}

// heed ends the run, if there is a reason to.
func heed(s api.Stop) {
	if s != 0 {
		panic(end{stop: s})
	}
}

// want ends the run as undefined, unless something holds.
func want(holds bool) {
	if !holds {
		heed(api.StopUndef)
	}
}

// spend takes steps.
func (m *machine) spend(n int) {
	if n > m.fuel-m.steps {
		m.steps = m.fuel
		heed(api.StopFuel)
	}
	m.steps += n
}

// begin begins a node or a statement.
func (m *machine) begin() {
	m.spend(1)
	m.deep++
	want(m.deep <= maxDeep)
}

// shape is what is asked of a type. One that has no size has the size 0.
type shape struct {
	kind  api.TypeKind
	size  int
	align int
}

// shape is that of a type, which is kept: layer 5 measures a type anew each time.
func (m *machine) shape(id int) shape {
	s, known := m.shapes[id]
	if !known {
		row, _ := m.types.Row(id)
		s.kind = row.Kind
		s.size, _ = layout.Size(m.types, id)
		s.align, _ = layout.Align(m.types, id)
		m.shapes[id] = s
	}
	return s
}

// isRecord tells whether it is a struct or a union.
func (s shape) isRecord() bool { return s.kind == api.TStruct || s.kind == api.TUnion }

// spendBytes takes the steps that a struct's or a union's bytes take besides.
func (m *machine) spendBytes(s shape) {
	if s.isRecord() {
		m.spend(s.size)
	}
}

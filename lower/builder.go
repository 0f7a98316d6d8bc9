package lower

import "mortise/api"

// builder writes the code of one function.
type builder struct {
	draft
	*gauge
	prog   *api.Prog
	source *api.Func
	spare  spare   // for records that lie nowhere else
	result api.Arg // the address of the record that is returned
	old    api.Arg // what the place of the innermost TxUpdate had
	loops  []loop  // those round what is written, the innermost one last
}

// newBuilder makes a builder of function number n that has written nothing yet. Where rooms are told, one must be able to ask whether a function gave a record: it gives 1, or 0 if it ended without one.
func newBuilder(types *gauge, p *api.Prog, n int, rooms []int) *builder {
	f := &p.Funcs[n]
	is := types.shape(f.Result)
	b := &builder{gauge: types, prog: p, source: f, spare: spare{room: anyRoom}}
	b.Name, b.Params, b.Gives = f.Name, f.Params, is.isScalar()
	if rooms != nil {
		b.spare.room = rooms[n]
		b.Gives = is.isScalar() || is.isRecord()
	}
	if is.isRecord() {
		b.result = temporary(b.Params)
		b.Params++
	}
	b.Temps = b.Params
	return b
}

// function writes the whole function, but for its slots.
func (b *builder) function() {
	b.openRoom()
	b.takeParameters()
	b.statement(&b.source.Body)
	b.leave(number(0)) // what ends without a value has nothing that may be asked for, but main exits with 0
	b.closeRoom()
	b.settle()
}

// takeParameters gives the locals that are parameters what was handed over. Records are copied ahead of all else: whoever calls may lay the record that is returned where they lie.
func (b *builder) takeParameters() {
	for i, id := range b.source.Locals[:b.source.Params] {
		is, given := b.shape(id), temporary(i)
		if is.isRecord() {
			b.copyBytes(inSlot(i), behind(given), is)
		} else {
			b.store(place{address: inSlot(i), is: is}, given)
		}
		b.held = 0
	}
}

// leave ends the call, with a value, if the function gives one.
func (b *builder) leave(v api.Arg) {
	if !b.Gives {
		v = api.Arg{}
	}
	b.write(api.Ins{Op: api.TacRet, A: v})
}

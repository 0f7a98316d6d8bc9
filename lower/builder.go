package lower

import "mortise/api"

// builder writes the code of one function.
type builder struct {
	draft
	*gauge
	prog   *api.Prog
	source *api.Func
	spare  spare   // for records that lie nowhere else
	result api.Arg // the address of the record that is returned
	old    api.Arg // what the place of the innermost TxUpdate had
	loops  []loop  // those round what is written, the innermost one last
}

// newBuilder makes a builder that has written nothing yet.
func newBuilder(types *gauge, p *api.Prog, f *api.Func) *builder {
	b := &builder{gauge: types, prog: p, source: f}
	b.Name, b.Params, b.Gives = f.Name, f.Params, types.shape(f.Result).isScalar()
	if types.shape(f.Result).isRecord() {
		b.result = temporary(b.Params)
		b.Params++
	}
	b.Temps = b.Params
	return b
}

// function writes the whole function.
func (b *builder) function() api.TacFunc {
	b.takeParameters()
	b.statement(&b.source.Body)
	b.leave(number(0)) // what ends without a value has nothing that may be asked for, but main exits with 0
	b.settle()
	b.laySlots()
	return b.TacFunc
}

// takeParameters gives the locals that are parameters what was handed over. Records are copied ahead of all else: whoever calls may lay the record that is returned where they lie.
func (b *builder) takeParameters() {
	for i, id := range b.source.Locals[:b.source.Params] {
		is, given := b.shape(id), temporary(i)
		if is.isRecord() {
			b.copyBytes(inSlot(i), behind(given), is)
		} else {
			b.store(place{address: inSlot(i), is: is}, given)
		}
		b.held = 0
	}
}

// leave ends the call, with a value, if the function gives one.
func (b *builder) leave(v api.Arg) {
	if !b.Gives {
		v = api.Arg{}
	}
	b.write(api.Ins{Op: api.TacRet, A: v})
}

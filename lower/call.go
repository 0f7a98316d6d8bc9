package lower

import "mortise/api"

// argument is what is handed to a function: a value, or, of a record, where it lies.
type argument struct {
	value api.Arg
	at    address
	is    shape
}

// arguments writes what is handed over by a TxCall, the leftmost one first, and answers it as a TacCall takes it.
func (b *builder) arguments(x *api.Tree) []api.Arg {
	var given []argument
	for i := range x.Sub {
		if !isCalm(&x.Sub[i]) {
			b.secure(given)
		}
		given = append(given, b.argument(&x.Sub[i]))
	}
	var args []api.Arg
	for _, g := range given {
		if g.is.isRecord() {
			g.value = b.pointer(g.at)
		}
		args = append(args, g.value)
	}
	return args
}

// argument writes one.
func (b *builder) argument(x *api.Tree) argument {
	is := b.shape(x.Type)
	if is.isRecord() {
		return argument{at: b.record(x), is: is}
	}
	return argument{value: b.value(x), is: is}
}

// isCalm tells whether a node leaves memory as it is.
func isCalm(x *api.Tree) bool {
	switch x.Kind {
	case api.TxSet, api.TxUpdate, api.TxCall, api.TxLit:
		return false
	}
	for i := range x.Sub {
		if !isCalm(&x.Sub[i]) {
			return false
		}
	}
	return true
}

// secure lays records that are to be handed over where nothing turns them any more. One that stands there twice is laid down once.
func (b *builder) secure(given []argument) {
	laid := map[argument]address{}
	for i, g := range given {
		if !g.is.isRecord() || b.isSpare(g.at) {
			continue
		}
		to, again := laid[g]
		if !again {
			to = b.spareFor(g.is)
			b.copyBytes(to, g.at, g.is)
			laid[g] = to
		}
		given[i].at = to
	}
}

// callRecord writes a TxCall of a function that gives a record, which is taken for something, or thrown away. That may be laid where records lie that were handed over: the function takes them first.
func (b *builder) callRecord(x *api.Tree, taken bool) address {
	low, spare := b.held, b.spare.used
	args := b.arguments(x)
	b.spare.used = spare
	to := b.spareFor(b.shape(x.Type))
	args = append(args, b.pointer(to))
	b.held = low
	call := api.Ins{Op: api.TacCall, N: x.Num, Args: args}
	if taken && b.isTight() {
		b.unlessGiven(b.gain(b.temp(), call))
	} else {
		b.write(call)
	}
	b.held = low
	return to
}

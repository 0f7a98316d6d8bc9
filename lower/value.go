package lower

import (
	"mortise/api"
	"mortise/word"
)

// value writes a scalar's node, and answers its value, which does not hang on a record that lies nowhere else.
func (b *builder) value(x *api.Tree) api.Arg {
	spare := b.spare.used
	v := b.scalar(x)
	b.spare.used = spare
	return v
}

// scalar writes a scalar's node, and answers its value. It writes into no temporary that is held; from where that began on none is held behind it but as the value needs.
func (b *builder) scalar(x *api.Tree) api.Arg {
	low := b.held
	switch x.Kind {
	case api.TxConst:
		return b.constant(x)
	case api.TxRead:
		return b.load(low, b.placeOf(&x.Sub[0]))
	case api.TxAddr, api.TxPtrAdd:
		return b.pointer(b.pointed(x))
	case api.TxConv:
		return b.converted(low, b.shape(x.Sub[0].Type).kind, b.shape(x.Type).kind, b.value(&x.Sub[0]))
	case api.TxBin, api.TxCmp:
		left, right := b.pair(x)
		return b.reckon(low, api.BinOp(x.Num), left, right)
	case api.TxDiff:
		return b.between(x)
	case api.TxNot:
		return b.reckon(low, api.OpEq, b.value(&x.Sub[0]), number(0))
	case api.TxAnd, api.TxOr:
		return b.truth(x)
	case api.TxCond:
		return b.chosen(x)
	case api.TxComma:
		b.effect(&x.Sub[0])
		return b.value(&x.Sub[1])
	case api.TxSet:
		return b.set(x, true)
	case api.TxUpdate:
		return b.update(x, true)
	case api.TxOld:
		return b.old
	case api.TxCall:
		args := b.arguments(x)
		b.held = low
		return b.gain(b.temp(), api.Ins{Op: api.TacCall, N: x.Num, Args: args})
	case api.TxPut:
		return b.reckon(low, api.OpAnd, b.putOut(x), number(0xff))
	}
	return b.gain(b.temp(), api.Ins{Op: api.TacGet})
}

// effect writes a node whose value nobody asks for.
func (b *builder) effect(x *api.Tree) {
	low, spare := b.held, b.spare.used
	switch x.Kind {
	case api.TxVoid:
		b.effect(&x.Sub[0])
	case api.TxComma:
		b.effect(&x.Sub[0])
		b.effect(&x.Sub[1])
	case api.TxCond:
		b.choose(&x.Sub[0], func() { b.effect(&x.Sub[1]) }, func() { b.effect(&x.Sub[2]) })
	case api.TxRead:
		b.address(&x.Sub[0])
	case api.TxSet:
		b.setAny(x)
	case api.TxUpdate:
		b.update(x, false)
	case api.TxCall:
		b.callAny(x)
	case api.TxPut:
		b.putOut(x)
	case api.TxExit:
		b.write(api.Ins{Op: api.TacExit, A: b.value(&x.Sub[0])})
	default:
		b.value(x)
	}
	b.held, b.spare.used = low, spare
}

// setAny writes a TxSet whose value nobody asks for.
func (b *builder) setAny(x *api.Tree) {
	if b.shape(x.Type).isRecord() {
		b.setRecord(x)
	} else {
		b.set(x, false)
	}
}

// callAny writes a TxCall whose value nobody asks for.
func (b *builder) callAny(x *api.Tree) {
	if b.shape(x.Type).isRecord() {
		b.callRecord(x, false)
	} else {
		b.write(api.Ins{Op: api.TacCall, N: x.Num, Args: b.arguments(x)})
	}
}

// constant is the number of a TxConst.
func (b *builder) constant(x *api.Tree) api.Arg {
	kind := b.shape(x.Type).kind
	if kind == api.TPtr {
		return number(0)
	}
	return number(word.Convert(kind, word.Of(x.Num)))
}

// pair are the values of two parts, the left one's first.
func (b *builder) pair(x *api.Tree) (api.Arg, api.Arg) {
	left := b.value(&x.Sub[0])
	return left, b.value(&x.Sub[1])
}

// between writes a TxDiff.
func (b *builder) between(x *api.Tree) api.Arg {
	low := b.held
	left, right := b.pair(x)
	bytes := b.reckon(low, api.OpSub, left, right)
	if x.Num == 1 {
		return bytes
	}
	return b.reckon(low, api.OpDivS, bytes, number(word.Of(x.Num)))
}

// converted is a value of one kind as one of another.
func (b *builder) converted(low int, from, to api.TypeKind, v api.Arg) api.Arg {
	switch {
	case to == api.TBool:
		return b.reckon(low, api.OpNe, v, number(0))
	case fits(from, to):
		return v
	}
	return b.narrowed(low, v, 8*word.Width(to), word.Signed(to))
}

// fits tells whether all numbers that places of a kind can have are numbers of another. (A _Bool may have any byte that was put there otherwise.)
func fits(from, to api.TypeKind) bool {
	a, b := word.Width(from), word.Width(to)
	if a == b || b == word.Width(api.TPtr) {
		return b == word.Width(api.TPtr) || word.Signed(from) == word.Signed(to)
	}
	return a < b && (word.Signed(to) || !word.Signed(from))
}

// narrowed is the number that the lowest bits of a value are.
func (b *builder) narrowed(low int, v api.Arg, bits int, signed bool) api.Arg {
	if !signed {
		return b.reckon(low, api.OpAnd, v, number(uint32(1)<<bits-1))
	}
	off := number(uint32(wordBits - bits))
	v = b.reckon(low, api.OpShl, v, off)
	return b.reckon(low, api.OpShrS, v, off)
}

// wordBits is how many bits a value has.
const wordBits = 32

// truth is 1 or 0 of a TxAnd or a TxOr.
func (b *builder) truth(x *api.Tree) api.Arg {
	to, end := b.temp(), b.label()
	b.move(to, number(1))
	b.jumpIf(x, true, end)
	b.move(to, number(0))
	b.put(end)
	return to
}

// chosen is the value of a TxCond.
func (b *builder) chosen(x *api.Tree) api.Arg {
	to := b.temp()
	low := b.held
	b.choose(&x.Sub[0], func() { b.move(to, b.value(&x.Sub[1])) }, func() {
		b.held = low
		b.move(to, b.value(&x.Sub[2]))
	})
	b.held = low
	return to
}

// set writes a TxSet of a scalar, and answers its value, if that is asked for.
func (b *builder) set(x *api.Tree, asked bool) api.Arg {
	to := b.placeOf(&x.Sub[0])
	return b.give(to, &x.Sub[1], asked)
}

// give gives a place a value, and answers what it has then, if that is asked for.
func (b *builder) give(to place, x *api.Tree, asked bool) api.Arg {
	low := b.held
	v := b.value(x)
	if to.field.Bits != 0 {
		v = b.fieldValue(low, to, v, asked)
	}
	b.store(to, v)
	return v
}

// update writes a TxUpdate, and answers its value, if that is asked for. A TxUpdate round it has its own TxOld again behind it.
func (b *builder) update(x *api.Tree, asked bool) api.Arg {
	p := b.placeOf(&x.Sub[0])
	outer, had := b.old, b.load(b.held, p)
	b.old = had
	has := b.give(p, &x.Sub[1], asked && x.Num != hadBefore)
	b.old = outer
	if x.Num == hadBefore {
		return had
	}
	return has
}

// hadBefore is the Num of a TxUpdate whose value is what the place had.
const hadBefore = 1

// putOut writes a TxPut, and answers what was handed to it.
func (b *builder) putOut(x *api.Tree) api.Arg {
	v := b.value(&x.Sub[0])
	b.write(api.Ins{Op: api.TacPut, A: v})
	return v
}

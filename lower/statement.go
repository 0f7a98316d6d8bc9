package lower

import "mortise/api"

// loop is a loop round what is written: where break and continue go on.
type loop struct {
	end  int
	next int
}

// statement writes a statement.
func (b *builder) statement(x *api.Tree) {
	switch x.Kind {
	case api.TsBlock:
		b.block(x)
	case api.TsExpr:
		b.effect(&x.Sub[0])
	case api.TsIf:
		b.choice(x)
	case api.TsWhile:
		b.while(x)
	case api.TsDo:
		b.do(x)
	case api.TsFor:
		b.count(x)
	case api.TsBreak:
		b.jump(b.innermost().end)
	case api.TsContinue:
		b.jump(b.innermost().next)
	case api.TsReturn:
		b.giveBack(x)
	}
}

// block writes a TsBlock. A local that begins with noughts is begun together with what it is set to.
func (b *builder) block(x *api.Tree) {
	for i := 0; i < len(x.Sub); i++ {
		s := &x.Sub[i]
		if s.Kind != api.TsZero {
			b.statement(s)
			continue
		}
		sets := setsOf(s.Num, x.Sub[i+1:])
		b.start(s.Num, sets)
		i += len(sets)
	}
}

// setsOf are the TxSets of local n that stand ahead of all else.
func setsOf(n int, statements []api.Tree) []api.Tree {
	var sets []api.Tree
	for _, s := range statements {
		if s.Kind != api.TsExpr || !isSetOf(n, &s.Sub[0]) {
			break
		}
		sets = append(sets, s.Sub[0])
	}
	return sets
}

// choice writes a TsIf.
func (b *builder) choice(x *api.Tree) {
	yes := func() { b.statement(&x.Sub[1]) }
	if len(x.Sub) > 2 {
		b.choose(&x.Sub[0], yes, func() { b.statement(&x.Sub[2]) })
		return
	}
	end := b.label()
	b.jumpIf(&x.Sub[0], false, end)
	yes()
	b.put(end)
}

// choose writes two ways to go on, of which the first one is taken, if what is asked is not 0.
func (b *builder) choose(asked *api.Tree, yes, no func()) {
	other, end := b.label(), b.label()
	b.jumpIf(asked, false, other)
	yes()
	b.jump(end)
	b.put(other)
	no()
	b.put(end)
}

// jumpIf goes on at a label, if a node holds, or if it does not.
func (b *builder) jumpIf(x *api.Tree, holds bool, to int) {
	switch x.Kind {
	case api.TxNot:
		b.jumpIf(&x.Sub[0], !holds, to)
	case api.TxAnd, api.TxOr:
		b.jumpIfBoth(x, holds, to)
	default:
		b.jumpIfValue(x, holds, to)
	}
}

// jumpIfBoth does so of a TxAnd or a TxOr. Of these the first part alone decides, if it does not hold, or if it holds.
func (b *builder) jumpIfBoth(x *api.Tree, holds bool, to int) {
	decides, past := x.Kind == api.TxOr, to
	if decides != holds {
		past = b.label()
	}
	b.jumpIf(&x.Sub[0], decides, past)
	b.jumpIf(&x.Sub[1], holds, to)
	if past != to {
		b.put(past)
	}
}

// jumpIfValue does so of any other node.
func (b *builder) jumpIfValue(x *api.Tree, holds bool, to int) {
	low := b.held
	v := b.value(x)
	switch {
	case v.Kind == api.ArgConst:
		if (v.N != 0) == holds {
			b.jump(to)
		}
	case holds:
		b.branch(v, to)
	default:
		b.branch(b.reckon(low, api.OpEq, v, number(0)), to)
	}
	b.held = low
}

// innermost is the innermost loop.
func (b *builder) innermost() loop { return b.loops[len(b.loops)-1] }

// repeat writes a loop: what is done each time, then what next writes, which goes on at a label, as long as there is another time.
func (b *builder) repeat(body *api.Tree, askFirst bool, next func(), ask func(again int)) {
	l := loop{end: b.label(), next: b.label()}
	again, asking := b.label(), b.label()
	if askFirst {
		b.jump(asking)
	}
	b.put(again)
	b.loops = append(b.loops, l)
	b.statement(body)
	b.loops = b.loops[:len(b.loops)-1]
	b.put(l.next)
	next()
	b.put(asking)
	ask(again)
	b.put(l.end)
}

// while writes a TsWhile.
func (b *builder) while(x *api.Tree) {
	b.repeat(&x.Sub[1], true, func() {}, func(again int) { b.jumpIf(&x.Sub[0], true, again) })
}

// do writes a TsDo.
func (b *builder) do(x *api.Tree) {
	b.repeat(&x.Sub[0], false, func() {}, func(again int) { b.jumpIf(&x.Sub[1], true, again) })
}

// count writes a TsFor. A TsNone in the place of an expression is none.
func (b *builder) count(x *api.Tree) {
	asked, next := &x.Sub[1], &x.Sub[2]
	b.statement(&x.Sub[0])
	b.repeat(&x.Sub[3], true, func() {
		if next.Kind != api.TsNone {
			b.effect(next)
		}
	}, func(again int) {
		if asked.Kind == api.TsNone {
			b.jump(again)
		} else {
			b.jumpIf(asked, true, again)
		}
	})
}

// giveBack writes a TsReturn.
func (b *builder) giveBack(x *api.Tree) {
	switch {
	case len(x.Sub) == 0:
		b.leave(api.Arg{})
	case b.shape(x.Sub[0].Type).isRecord(): // no pointer leads to where what is returned goes, so nothing lies across it
		b.copyBytes(behind(b.result), b.record(&x.Sub[0]), b.shape(x.Sub[0].Type))
		b.leave(number(1))
	default:
		b.leave(b.value(&x.Sub[0]))
	}
	b.held, b.spare.used = 0, 0
}

package model

import "mortise/api"

// bitsOf are the first bit and the bits of a place that is a bit-field.
func bitsOf(place api.Tree) (bit, bits int) {
	if place.Kind == api.TxPart {
		return place.Num / 64 % 32, place.Num % 64
	}
	return 0, 0
}

// values tells the values of nodes, one behind the other: each is done, even if one ahead of it has nothing.
func (w *teller) values(l []api.Tree) []thing {
	var got []thing
	for _, x := range l {
		got = append(got, w.expr(x))
	}
	return got
}

// some tells a node whose value is taken at once.
func (w *teller) some(x api.Tree) thing {
	v := w.expr(x)
	if v.sort == isNone {
		w.undefined()
	}
	return v
}

// expr tells a node: places are pointers.
func (w *teller) expr(x api.Tree) thing {
	w.steps(1)
	if w.over() {
		return thing{}
	}
	w.visited[x.Kind]++
	switch x.Kind {
	case api.TxRead, api.TxSet, api.TxUpdate, api.TxOld, api.TxLocal, api.TxGlobal, api.TxDeref, api.TxPart, api.TxLit, api.TxAddr:
		return w.access(x)
	case api.TxAnd, api.TxOr, api.TxCond, api.TxNot:
		return w.logic(x)
	case api.TxCall, api.TxPut, api.TxGet, api.TxExit:
		return w.doing(x)
	case api.TxComma:
		w.expr(x.Sub[0])
		return w.expr(x.Sub[1])
	case api.TxVoid:
		w.expr(x.Sub[0])
		return thing{}
	}
	l := w.values(x.Sub)
	if w.over() {
		return thing{}
	}
	return w.reckoned(x, l)
}

// access tells a place, or what is done with one.
func (w *teller) access(x api.Tree) thing {
	switch x.Kind {
	case api.TxOld:
		return w.olds[len(w.olds)-1]
	case api.TxLocal:
		return thing{sort: isPointer, block: w.frame()[x.Num]}
	case api.TxGlobal:
		return thing{sort: isPointer, block: x.Num + 1}
	case api.TxAddr:
		return w.expr(x.Sub[0])
	case api.TxDeref:
		if v := w.expr(x.Sub[0]); v.sort == isPointer {
			return v
		}
		return w.undefined()
	case api.TxPart:
		v := w.expr(x.Sub[0])
		old := v
		v.n += int64(x.Num / 2048)
		if !w.good(v) || !w.good(old) {
			return w.undefined()
		}
		return v
	case api.TxLit:
		w.steps(w.localSize(x.Num))
		p := w.renew(x.Num, true)
		w.values(x.Sub)
		return p
	}
	return w.readOrPut(x)
}

// readOrPut tells a TxRead, a TxSet or a TxUpdate.
func (w *teller) readOrPut(x api.Tree) thing {
	place := x.Sub[0]
	bit, bits := bitsOf(place)
	besides := 0
	if w.record(place.Type) {
		besides = w.size(place.Type)
	}
	if x.Kind == api.TxRead {
		w.steps(besides)
		return w.get(w.expr(place), place.Type, bit, bits)
	}
	p := w.expr(place)
	if x.Kind == api.TxSet {
		v := w.expr(x.Sub[1])
		w.steps(besides)
		return w.put(p, place.Type, bit, bits, v)
	}
	had := w.get(p, place.Type, bit, bits)
	w.olds = append(w.olds, had)
	v := w.expr(x.Sub[1])
	w.olds = w.olds[:len(w.olds)-1]
	has := w.put(p, place.Type, bit, bits, v)
	if x.Num == 1 {
		return had
	}
	return has
}

// oneOrNought is a truth as a number.
func oneOrNought(yes bool) thing {
	if yes {
		return thing{sort: isNumber, n: 1}
	}
	return thing{sort: isNumber}
}

// logic tells what asks for a truth first.
func (w *teller) logic(x api.Tree) thing {
	first := w.truth(w.some(x.Sub[0]))
	switch {
	case w.over():
		return thing{}
	case x.Kind == api.TxNot:
		return oneOrNought(!first)
	case x.Kind == api.TxCond && first:
		return w.expr(x.Sub[1])
	case x.Kind == api.TxCond:
		return w.expr(x.Sub[2])
	case first == (x.Kind == api.TxOr):
		return oneOrNought(first)
	}
	return oneOrNought(w.truth(w.some(x.Sub[1])))
}

// doing tells calls, and what goes out and in.
func (w *teller) doing(x api.Tree) thing {
	l := w.values(x.Sub)
	if w.over() {
		return thing{}
	}
	switch {
	case x.Kind == api.TxCall:
		return w.call(x.Num, l)
	case x.Kind == api.TxGet && len(w.input) == 0:
		return thing{sort: isNumber, n: -1}
	case x.Kind == api.TxGet:
		b := w.input[0]
		w.input = w.input[1:]
		return thing{sort: isNumber, n: int64(b)}
	case l[0].sort != isNumber:
		return w.undefined()
	case x.Kind == api.TxExit:
		w.o.Code = int(l[0].n)
		return w.stop(api.StopExit)
	}
	b := byte(l[0].n)
	w.o.Out = append(w.o.Out, b)
	return thing{sort: isNumber, n: int64(b)}
}

// reckoned tells what is made of values.
func (w *teller) reckoned(x api.Tree, l []thing) thing {
	switch x.Kind {
	case api.TxConst:
		return w.number(int64(x.Num), x.Type)
	case api.TxConv:
		if w.kind(x.Type) == api.TPtr && l[0].sort != isNone {
			return l[0]
		}
		if l[0].sort != isNumber {
			return w.undefined()
		}
		return w.number(l[0].n, x.Type)
	case api.TxBin:
		if l[0].sort != isNumber || l[1].sort != isNumber {
			return w.undefined()
		}
		return w.binary(x, l[0].n, l[1].n)
	case api.TxPtrAdd:
		p := l[0]
		if !w.good(p) || l[1].sort != isNumber {
			return w.undefined()
		}
		p.n += wrap(l[1].n*int64(x.Num), api.TInt)
		if !w.good(p) {
			return w.undefined()
		}
		return p
	case api.TxDiff:
		apart := l[0].n - l[1].n
		if !w.good(l[0]) || !w.good(l[1]) || l[0].block != l[1].block || apart%int64(x.Num) != 0 {
			return w.undefined()
		}
		return thing{sort: isNumber, n: apart / int64(x.Num)}
	}
	return w.compared(api.BinOp(x.Num), l[0], l[1])
}

// compared tells a TxCmp.
func (w *teller) compared(op api.BinOp, a, b thing) thing {
	for _, v := range []thing{a, b} {
		if v.sort != isNumber && !w.good(v) {
			return w.undefined()
		}
	}
	equal := op == api.OpEq || op == api.OpNe
	switch {
	case a.sort == b.sort && a.block == b.block: // two pointers into one block, or 0 twice
		return oneOrNought(op == api.OpEq && a.n == b.n || op == api.OpNe && a.n != b.n || op == api.OpLtU && a.n < b.n || op == api.OpLeU && a.n <= b.n)
	case !equal:
		return w.undefined()
	case a.sort == b.sort && (a.n == int64(len(w.blocks[a.block])) || b.n == int64(len(w.blocks[b.block]))):
		return w.undefined()
	}
	return oneOrNought(op == api.OpNe)
}

// binary tells a TxBin of two numbers.
func (w *teller) binary(x api.Tree, a, b int64) thing {
	n := int64(0)
	switch api.BinOp(x.Num) {
	case api.OpAdd:
		n = a + b
	case api.OpSub:
		n = a - b
	case api.OpMul:
		n = wrap(a, api.TInt) * wrap(b, api.TInt)
	case api.OpDivS, api.OpDivU, api.OpRemS, api.OpRemU:
		if b == 0 {
			return w.stop(api.StopZero)
		}
		n = a / b
		if api.BinOp(x.Num) == api.OpRemS || api.BinOp(x.Num) == api.OpRemU {
			n = a - n*b
		}
	case api.OpAnd:
		n = a & b
	case api.OpOr:
		n = a | b
	case api.OpXor:
		n = a ^ b
	case api.OpShl:
		n = a << (b & 31)
	case api.OpShrS, api.OpShrU:
		n = a >> (b & 31)
	case api.OpEq:
		return oneOrNought(a == b)
	case api.OpNe:
		return oneOrNought(a != b)
	case api.OpLtS, api.OpLtU:
		return oneOrNought(a < b)
	default:
		return oneOrNought(a <= b)
	}
	return w.number(n, x.Type)
}

// statement tells a statement, and answers where one is behind it: "", "break", "continue" or "return".
func (w *teller) statement(x api.Tree) string {
	w.steps(1)
	if w.over() {
		return "return"
	}
	w.visited[x.Kind]++
	switch x.Kind {
	case api.TsBreak:
		return "break"
	case api.TsContinue:
		return "continue"
	case api.TsExpr:
		w.expr(x.Sub[0])
	case api.TsFresh:
		w.renew(x.Num, false)
	case api.TsZero:
		w.steps(w.localSize(x.Num))
		w.renew(x.Num, true)
	case api.TsBlock:
		for _, sub := range x.Sub {
			if where := w.statement(sub); where != "" {
				return where
			}
		}
	case api.TsIf:
		if w.truth(w.expr(x.Sub[0])) {
			return w.statement(x.Sub[1])
		} else if len(x.Sub) == 3 {
			return w.statement(x.Sub[2])
		}
	case api.TsWhile:
		return w.loop(&x.Sub[0], nil, x.Sub[1])
	case api.TsFor:
		w.statement(x.Sub[0])
		return w.loop(orNone(&x.Sub[1]), orNone(&x.Sub[2]), x.Sub[3])
	case api.TsDo:
		if where := w.statement(x.Sub[0]); where != "" && where != "continue" {
			return behindLoop(where)
		}
		return w.loop(&x.Sub[1], nil, x.Sub[0])
	case api.TsReturn:
		if len(x.Sub) == 1 {
			w.given = w.some(x.Sub[0])
		}
		return "return"
	}
	return ""
}

// orNone is an expression, or nil of a TsNone.
func orNone(x *api.Tree) *api.Tree {
	if x.Kind == api.TsNone {
		return nil
	}
	return x
}

// behindLoop is where one is behind a loop that was left so.
func behindLoop(where string) string {
	if where == "break" {
		return ""
	}
	return where
}

// loop tells rounds of a loop.
func (w *teller) loop(asked, next *api.Tree, body api.Tree) string {
	for !w.over() {
		if asked != nil && !w.truth(w.expr(*asked)) {
			return ""
		}
		if where := w.statement(body); where != "" && where != "continue" {
			return behindLoop(where)
		}
		if next != nil {
			w.expr(*next)
		}
	}
	return "return"
}

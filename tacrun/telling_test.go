package tacrun

import (
	"slices"

	"mortise/api"
)

// signed is a number of 32 bits in two's complement.
func signed(n int64) int64 {
	if n >= 1<<31 {
		return n - 1<<32
	}
	return n
}

// good tells whether a pointer is.
func good(p thing) bool {
	return p.sort == "pointer" && !p.room.ended && p.n >= 0 && p.n <= int64(len(p.room.bytes))
}

// moved is a pointer some bytes further on; nothing, if one of both is not good.
func moved(p thing, by int) thing {
	q := p
	q.n += int64(by)
	if !good(p) || !good(q) {
		return thing{}
	}
	return q
}

// at are n bytes at a pointer by a width; none, if that is undefined.
func (w *teller) at(p thing, n, by int) []piece {
	if !good(p) || p.n+int64(n) > int64(len(p.room.bytes)) || p.n%int64(by) != 0 || p.room.align < int64(by) {
		w.o.Stop = api.StopUndef
		return nil
	}
	return p.room.bytes[p.n:][:n]
}

// load reads.
func (w *teller) load(p thing, width int, sign bool) thing {
	l := w.at(p, width, width)
	if l == nil {
		return thing{}
	}
	n, bytes := int64(0), 0
	for i, c := range l {
		if c.of.sort == "number" {
			n += c.of.n << (8 * i)
			bytes++
		}
	}
	if bytes == width {
		if top := int64(1) << (8*width - 1); sign && n >= top {
			n += 1<<32 - 2*top
		}
		return thing{sort: "number", n: n}
	}
	whole := l[0].of
	if width == 4 && whole.sort == "pointer" && slices.Equal(l, partsOf(whole)) {
		return whole
	}
	w.o.Stop = api.StopUndef
	return thing{}
}

// partsOf are the four parts of a pointer.
func partsOf(p thing) []piece { return []piece{{p, 0}, {p, 1}, {p, 2}, {p, 3}} }

// store writes.
func (w *teller) store(p thing, width int, v thing) {
	l := w.at(p, width, width)
	if l == nil || v.sort == "pointer" && width < 4 {
		w.o.Stop = api.StopUndef
		return
	}
	if v.sort == "pointer" {
		copy(l, partsOf(v))
		return
	}
	for i := range l {
		l[i] = piece{of: thing{sort: "number", n: v.n >> (8 * i) & 255}}
	}
}

// copyTo copies.
func (w *teller) copyTo(to, from thing, n, by int) {
	a, b := w.at(to, n, by), w.at(from, n, by)
	if a == nil || b == nil {
		return
	}
	if apart := to.n - from.n; to.room == from.room && apart != 0 && apart < int64(n) && -apart < int64(n) {
		w.o.Stop = api.StopUndef
		return
	}
	copy(a, slices.Clone(b))
}

// bin does an operation.
func (w *teller) bin(op api.BinOp, a, b thing) thing {
	v := thing{}
	switch {
	case a.sort == "number" && b.sort == "number":
		if op >= api.OpDivS && op <= api.OpRemU && b.n == 0 {
			w.o.Stop = api.StopZero
			return v
		}
		return thing{sort: "number", n: reckoned(op, a.n, b.n) & (1<<32 - 1)}
	case a.sort == "pointer" && !good(a) || b.sort == "pointer" && !good(b):
	case a.sort == "pointer" && b.sort == "pointer":
		v = ofTwo(op, a, b)
	case b.sort == "pointer" && op != api.OpSub:
		v = ofOne(op, b, a.n)
	case a.sort == "pointer":
		v = ofOne(op, a, b.n)
	}
	if v.sort == "" {
		w.o.Stop = api.StopUndef
	}
	return v
}

// truth is 1 or 0.
func truth(yes bool) int64 {
	if yes {
		return 1
	}
	return 0
}

// reckoned is what an operation makes of two numbers, of which the lowest 32 bits count.
func reckoned(op api.BinOp, a, b int64) int64 {
	switch op {
	case api.OpAdd:
		return a + b
	case api.OpSub:
		return a - b
	case api.OpMul:
		return int64(uint64(a) * uint64(b))
	case api.OpDivS:
		return signed(a) / signed(b)
	case api.OpDivU:
		return a / b
	case api.OpRemS:
		return signed(a) % signed(b)
	case api.OpRemU:
		return a % b
	case api.OpAnd:
		return a & b
	case api.OpOr:
		return a | b
	case api.OpXor:
		return a ^ b
	case api.OpShl:
		return a << (b % 32)
	case api.OpShrS:
		return signed(a) >> (b % 32)
	case api.OpShrU:
		return a >> (b % 32)
	}
	return compared(op, a, b)
}

// compared is what a comparison makes of two numbers.
func compared(op api.BinOp, a, b int64) int64 {
	switch op {
	case api.OpEq:
		return truth(a == b)
	case api.OpNe:
		return truth(a != b)
	case api.OpLtS:
		return truth(signed(a) < signed(b))
	case api.OpLtU:
		return truth(a < b)
	case api.OpLeS:
		return truth(signed(a) <= signed(b))
	}
	return truth(a <= b)
}

// ofTwo is what an operation makes of two good pointers; nothing, if that is undefined.
func ofTwo(op api.BinOp, a, b thing) thing {
	unlike := a.room != b.room
	if unlike && (int(a.n) == len(a.room.bytes) || int(b.n) == len(b.room.bytes)) {
		return thing{}
	}
	switch {
	case unlike && (op == api.OpEq || op == api.OpNe):
		return thing{sort: "number", n: truth(op == api.OpNe)}
	case unlike:
		return thing{}
	case op == api.OpSub:
		return thing{sort: "number", n: (a.n - b.n) & (1<<32 - 1)}
	case op >= api.OpEq:
		return thing{sort: "number", n: compared(op, a.n, b.n)}
	}
	return thing{}
}

// ofOne is what an operation makes of a good pointer and a number; nothing, if that is undefined.
func ofOne(op api.BinOp, p thing, n int64) thing {
	switch {
	case op == api.OpAdd:
		return moved(p, int(signed(n)))
	case op == api.OpSub:
		return moved(p, -int(signed(n)))
	case n == 0 && (op == api.OpEq || op == api.OpNe):
		return thing{sort: "number", n: truth(op == api.OpNe)}
	}
	return thing{}
}

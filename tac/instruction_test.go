package tac

import (
	"math"
	"slices"
	"testing"

	"mortise/api"
)

// span are the numbers that a field may have.
type span struct{ least, most int }

// has tells whether a number is one of them.
func (s span) has(n int) bool { return s.least <= n && n <= s.most }

// edges are the numbers round a span, and some far away from it.
func (s span) edges() []int {
	return append(far(), s.least-1, s.least, s.least+1, s.most-1, s.most, s.most+1, -1, 0, 1)
}

// row is what P13.1's table says of a right instruction in world, as the numbers that each field may have while the others stay.
type row struct {
	x                    api.Ins
	bin, d, n, off       span
	widths               []int // nil: only 0
	a, b, signed, listed bool  // whether the row names A, B, Signed, Args
}

var (
	unset = span{-1, -1}
	temps = span{0, 2}
)

// rows has the table, in which code has three instructions.
func rows() []row {
	return []row{
		{x: api.Ins{Op: api.TacMov, D: 1, A: tmp(0)}, d: temps, a: true},
		{x: api.Ins{Op: api.TacBin, Bin: api.OpXor, D: 1, A: tmp(0), B: tmp(2)}, bin: span{1, 19}, d: temps, a: true, b: true},
		{x: api.Ins{Op: api.TacSlot, D: 1}, d: temps, n: span{0, 2}, off: span{0, 8}},
		{x: api.Ins{Op: api.TacSlot, D: 1, N: 1}, d: temps, n: span{0, 2}, off: span{0, 16384}},
		{x: api.Ins{Op: api.TacSlot, D: 1, N: 2}, d: temps, n: span{0, 2}, off: span{0, 1}},
		{x: api.Ins{Op: api.TacGlobal, D: 1}, d: temps, n: span{0, 1}, off: span{0, 8}},
		{x: api.Ins{Op: api.TacGlobal, D: 1, N: 1}, d: temps, n: span{0, 1}, off: span{0, 16384}},
		{x: api.Ins{Op: api.TacLoad, D: 1, A: tmp(0), Width: 1}, d: temps, off: span{-16384, 16384}, widths: []int{1, 2, 4}, a: true, signed: true},
		{x: api.Ins{Op: api.TacLoad, D: 1, A: tmp(0), Width: 2}, d: temps, off: span{-16384, 16384}, widths: []int{1, 2, 4}, a: true, signed: true},
		{x: api.Ins{Op: api.TacLoad, D: 1, A: tmp(0), Width: 4}, d: temps, off: span{-16384, 16384}, widths: []int{1, 2, 4}, a: true},
		{x: api.Ins{Op: api.TacLoad, D: 1, A: tmp(0), Width: 2, Signed: true}, d: temps, off: span{-16384, 16384}, widths: []int{1, 2}, a: true, signed: true},
		{x: api.Ins{Op: api.TacStore, D: -1, A: tmp(0), B: tmp(1), Width: 4}, d: unset, off: span{-16384, 16384}, widths: []int{1, 2, 4}, a: true, b: true},
		{x: api.Ins{Op: api.TacCopy, D: -1, A: tmp(0), B: tmp(1), Off: 4, Width: 1}, d: unset, off: span{1, 16384}, widths: []int{1, 2, 4}, a: true, b: true},
		{x: api.Ins{Op: api.TacCopy, D: -1, A: tmp(0), B: tmp(1), Off: 3, Width: 1}, d: unset, off: span{1, 16384}, widths: []int{1}, a: true, b: true},
		{x: api.Ins{Op: api.TacCopy, D: -1, A: tmp(0), B: tmp(1), Off: 6, Width: 1}, d: unset, off: span{1, 16384}, widths: []int{1, 2}, a: true, b: true},
		{x: api.Ins{Op: api.TacCall, D: -1, N: 0}, d: unset, n: span{0, 0}},
		{x: api.Ins{Op: api.TacCall, D: 0, N: 4}, d: span{-1, 2}, n: span{4, 4}},
		{x: api.Ins{Op: api.TacCall, D: 1, N: 1, Args: []api.Arg{tmp(0), tmp(1)}}, d: span{-1, 2}, n: span{1, 1}, listed: true},
		{x: api.Ins{Op: api.TacRet, D: -1, A: tmp(0)}, d: unset, a: true},
		{x: api.Ins{Op: api.TacJump, D: -1, N: 0}, d: unset, n: span{0, 2}},
		{x: api.Ins{Op: api.TacBranch, D: -1, A: tmp(0), N: 0}, d: unset, n: span{0, 2}, a: true},
		{x: api.Ins{Op: api.TacPut, D: -1, A: tmp(0)}, d: unset, a: true},
		{x: api.Ins{Op: api.TacGet, D: 0}, d: temps},
		{x: api.Ins{Op: api.TacExit, D: -1, A: tmp(0)}, d: unset, a: true},
	}
}

// TestP13_1Rows turns one field at a time, at the edges of what the row says.
func TestP13_1Rows(t *testing.T) {
	for _, r := range rows() {
		verdict(t, around(r.x), true, "as it stands", r.x)
		turn := func(s span, set func(x *api.Ins, n int)) {
			for _, n := range s.edges() {
				x := r.x
				set(&x, n)
				verdict(t, around(x), s.has(n), "turned", x)
			}
		}
		turn(r.bin, func(x *api.Ins, n int) { x.Bin = api.BinOp(n) })
		turn(r.d, func(x *api.Ins, n int) { x.D = n })
		turn(r.n, func(x *api.Ins, n int) { x.N = n })
		turn(r.off, func(x *api.Ins, n int) { x.Off = n })
		for _, n := range append(far(), -4, -1, 0, 1, 2, 3, 4, 5, 8) {
			x := r.x
			x.Width = n
			verdict(t, around(x), slices.Contains(r.widths, n) || n == 0 && r.widths == nil, "width", x)
		}
		x := r.x
		x.Signed = true
		verdict(t, around(x), r.signed, "signed", x)
	}
}

// TestP13_1Operands turns the operands.
func TestP13_1Operands(t *testing.T) {
	none := api.Arg{}
	good := []api.Arg{tmp(0), tmp(1), tmp(2), num(0), num(1), num(3), num(1 << 31), num(math.MaxUint32)}
	bad := []api.Arg{
		tmp(3), tmp(4), tmp(4095), tmp(4096), tmp(1 << 31), tmp(math.MaxUint32), tmp(math.MaxUint32 - 1), {N: 1}, {N: math.MaxUint32},
		{Kind: -1}, {Kind: 3}, {Kind: 4, N: 1}, {Kind: 257}, {Kind: 258}, {Kind: 1<<32 + 1}, {Kind: 1<<32 + 2}, {Kind: math.MaxInt}, {Kind: math.MinInt},
	}
	for _, r := range rows() {
		for _, a := range slices.Concat(good, bad, []api.Arg{none}) {
			is := slices.Contains(good, a)
			x := r.x
			x.A = a
			verdict(t, around(x), is && r.a || a == none && !r.a, "A", x)
			x = r.x
			x.B = a
			verdict(t, around(x), is && r.b || a == none && !r.b, "B", x)
			if r.listed {
				x = r.x
				x.Args = []api.Arg{a, tmp(0)}
				verdict(t, around(x), is, "first of Args", x)
				x.Args = []api.Arg{tmp(2), a}
				verdict(t, around(x), is, "last of Args", x)
			} else {
				x = r.x
				x.Args = []api.Arg{a}
				verdict(t, around(x), false, "Args", x)
			}
		}
	}
}

// TestP13_1NoArgs: a list of arguments that is empty is none, whatever room it has.
func TestP13_1NoArgs(t *testing.T) {
	for _, x := range samples() {
		if len(x.Args) == 0 {
			x.Args = make([]api.Arg, 0, 8)
			verdict(t, around(x), true, "an empty list", x)
		}
	}
}

// TestP13_1NoOperations: operations that are none.
func TestP13_1NoOperations(t *testing.T) {
	for _, op := range append(far(), -1, 0, 15, 16, 257, 265) {
		for _, x := range samples() {
			x.Op = api.TacOp(op)
			verdict(t, around(x), false, "operation", x)
		}
		verdict(t, around(api.Ins{Op: api.TacOp(op), D: -1}), false, "operation", op)
		verdict(t, around(api.Ins{Op: api.TacOp(op)}), false, "operation", op, "with D")
		verdict(t, world(exit(num(0)), api.Ins{Op: api.TacOp(op), D: -1}), false, "last operation", op)
	}
	verdict(t, around(api.Ins{}), false, "the zero instruction")
	for _, op := range append(far(), 0, -1, 20, 32, 33, 257, 275) {
		verdict(t, around(api.Ins{Op: api.TacBin, Bin: api.BinOp(op), A: num(1), B: num(2)}), false, "bin", op)
	}
	for op := range 19 {
		verdict(t, around(api.Ins{Op: api.TacBin, Bin: api.BinOp(op + 1), A: num(1), B: num(0)}), true, "bin", op+1)
	}
}

// TestP13_1Copies asks that what is copied is a multiple of the width.
func TestP13_1Copies(t *testing.T) {
	for off := -9; off <= 20; off++ {
		for width := -4; width <= 9; width++ {
			x := api.Ins{Op: api.TacCopy, D: -1, A: tmp(0), B: num(0), Off: off, Width: width}
			ok := (width == 1 || width == 2 || width == 4) && off > 0 && off%width == 0
			verdict(t, around(x), ok, "copy", x)
		}
	}
	for off := 16380; off <= 16392; off++ {
		for _, width := range []int{1, 2, 4} {
			x := api.Ins{Op: api.TacCopy, D: -1, A: tmp(0), B: num(0), Off: off, Width: width}
			verdict(t, around(x), off <= 16384 && off%width == 0, "copy", x)
		}
	}
}

// TestP13_1Loads asks which widths may be signed, and that neither Off nor the width has to fit the other.
func TestP13_1Loads(t *testing.T) {
	for _, off := range []int{-16384, -16383, -3, -1, 0, 1, 2, 3, 16383, 16384} {
		for _, width := range []int{1, 2, 4} {
			for _, signed := range []bool{false, true} {
				x := api.Ins{Op: api.TacLoad, A: tmp(0), Off: off, Width: width, Signed: signed}
				verdict(t, around(x), !signed || width < 4, "load", x)
				x = api.Ins{Op: api.TacStore, D: -1, A: tmp(0), B: tmp(0), Off: off, Width: width, Signed: signed}
				verdict(t, around(x), !signed, "store", x)
			}
		}
	}
}

// TestP13_1Calls asks for arguments and what is given.
func TestP13_1Calls(t *testing.T) {
	params, gives := []int{0, 2, 0, 8, 0}, []bool{false, true, true, false, true}
	for _, n := range append(far(), -1, 0, 1, 2, 3, 4, 5, 63, 64) {
		for count := range 12 {
			for d := -2; d <= 3; d++ {
				x := api.Ins{Op: api.TacCall, D: d, N: n, Args: make([]api.Arg, count)}
				for i := range x.Args {
					x.Args[i] = num(uint32(i))
				}
				ok := 0 <= n && n < 5 && count == params[n] && (d == -1 || gives[n] && 0 <= d && d < 3)
				verdict(t, around(x), ok, "call", x)
			}
		}
	}
	for i := range 8 {
		x := api.Ins{Op: api.TacCall, D: -1, N: 3, Args: make([]api.Arg, 8)}
		for k := range x.Args {
			x.Args[k] = tmp(2)
		}
		verdict(t, around(x), true, "eight arguments")
		x.Args[i] = tmp(3)
		verdict(t, around(x), false, "argument", i, "is no temporary")
		x.Args[i] = api.Arg{}
		verdict(t, around(x), false, "argument", i, "is nothing")
	}
}

// TestP13_1Returns asks for returns of functions that give and of those that do not.
func TestP13_1Returns(t *testing.T) {
	for _, gives := range []bool{false, true} {
		for _, a := range []api.Arg{{}, tmp(0), tmp(1), num(0), num(math.MaxUint32), {N: 1}, {Kind: 3}, tmp(2)} {
			f := api.TacFunc{Name: "f", Temps: 2, Gives: gives, Code: []api.Ins{ret(a)}}
			is := a.Kind == api.ArgConst || a.Kind == api.ArgTemp && a.N < 2
			verdict(t, having(f), gives && is || !gives && a == api.Arg{}, "gives", gives, a)
			f.Code = []api.Ins{ret(a), exit(num(0))}
			verdict(t, having(f), gives && is || !gives && a == api.Arg{}, "gives, not last", gives, a)
		}
	}
}

// TestP13_1NoTemps: in a function without temporaries nothing names one.
func TestP13_1NoTemps(t *testing.T) {
	for _, x := range samples() {
		p := around(x)
		p.Funcs[2].Temps = 0
		uses := x.D >= 0 || x.A.Kind == api.ArgTemp || x.B.Kind == api.ArgTemp
		for _, a := range x.Args {
			uses = uses || a.Kind == api.ArgTemp
		}
		verdict(t, p, !uses, "no temporaries", x)
	}
	most := api.TacFunc{Name: "f", Temps: 4096, Code: []api.Ins{{Op: api.TacMov, D: 4095, A: tmp(4095)}, exit(tmp(4095))}}
	verdict(t, having(most), true, "the last temporary")
	most.Code[0].D = 4096
	verdict(t, having(most), false, "one behind the last temporary")
	most.Code[0] = api.Ins{Op: api.TacMov, D: 4095, A: tmp(4096)}
	verdict(t, having(most), false, "one behind the last temporary is read")
}

// TestP13_1OwnFunction: what an instruction names is its own function's, wherever that stands.
func TestP13_1OwnFunction(t *testing.T) {
	for i := range 5 {
		p := world(exit(num(0)))
		f := &p.Funcs[i]
		f.Temps, f.Slots = 9+i, []api.Slot{{Size: 10 + i, Align: 1}}
		f.Code = []api.Ins{{Op: api.TacSlot, D: 8 + i, Off: 10 + i}, {Op: api.TacMov, D: 0, A: tmp(uint32(8 + i))}, jump(2)}
		verdict(t, p, true, "function", i)
		for _, x := range []api.Ins{{Op: api.TacSlot, D: 9 + i}, {Op: api.TacSlot, N: 1}, {Op: api.TacSlot, Off: 11 + i}, {Op: api.TacMov, D: 0, A: tmp(uint32(9 + i))}, jump(3)} {
			q := copied(p)
			q.Funcs[i].Code[1] = x
			verdict(t, q, false, "function", i, x)
		}
	}
}

// TestP13_1EachInstruction asks that every instruction is looked at.
func TestP13_1EachInstruction(t *testing.T) {
	for i := range 9 {
		f := api.TacFunc{Name: "f", Temps: 1}
		for range 9 {
			f.Code = append(f.Code, jump(0))
		}
		verdict(t, having(plain("main"), f), true, "nine jumps")
		f.Code[i].N = 9
		verdict(t, having(plain("main"), f), false, "jump", i, "is wrong")
	}
}

package tac

import (
	"strconv"
	"testing"

	"mortise/api"
)

// plain is a function without anything but its end.
func plain(name string) api.TacFunc {
	return api.TacFunc{Name: name, Code: []api.Ins{exit(num(0))}}
}

// having is a program with these functions, of which the first is main.
func having(funcs ...api.TacFunc) api.TacProg { return api.TacProg{Funcs: funcs} }

// TestP13_1FunctionNames asks which names functions may have.
func TestP13_1FunctionNames(t *testing.T) {
	for _, name := range goodNames() {
		verdict(t, having(plain(name)), true, "function", name)
		verdict(t, having(plain("other"), plain(name)), true, "second function", name)
		verdict(t, having(plain(name), plain("other"), plain(name)), false, "two functions", name)
		p := having(plain(name))
		p.Objects = []api.TacObject{empty(name, 1, 1), empty(name, 1, 1)}
		verdict(t, p, true, "objects and a function", name)
	}
	for _, name := range badNames() {
		verdict(t, having(plain(name)), false, "function", name)
		verdict(t, having(plain("other"), plain(name)), false, "second function", name)
	}
	verdict(t, having(plain("f"), plain("F"), plain("ff"), plain("_f"), plain("f_")), true, "names that are nearly alike")
	verdict(t, having(plain("#1"), plain("#01"), plain("#001")), true, "numbers that are written otherwise")
	verdict(t, having(plain("a"), plain("b"), plain("b")), false, "the last two have one name")
}

// TestP13_1ManyFunctions asks how many functions there may be.
func TestP13_1ManyFunctions(t *testing.T) {
	var list []api.TacFunc
	verdict(t, having(), false, "no function")
	verdict(t, api.TacProg{}, false, "nothing")
	verdict(t, holding(empty("x", 1, 1)), true, "one function")
	for i := range api.MaxFuncs {
		list = append(list, plain("f"+strconv.Itoa(i)))
	}
	verdict(t, having(list[:63]...), true, "63 functions")
	verdict(t, having(list...), true, "64 functions")
	verdict(t, having(append(list, plain("more"))...), false, "65 functions")
}

// TestP13_1Temps asks for the numbers of parameters and temporaries.
func TestP13_1Temps(t *testing.T) {
	for _, params := range append(far(), -1, 0, 1, 7, 8, 9, 10, 4096, 4097) {
		for _, temps := range append(far(), -1, 0, 1, 6, 7, 8, 9, 4095, 4096, 4097, 8192) {
			f := plain("f")
			f.Params, f.Temps = params, temps
			verdict(t, having(plain("main"), f), 0 <= params && params <= 8 && params <= temps && temps <= 4096, "params", params, "temps", temps)
		}
	}
}

// TestP13_1Slots asks which slots there may be.
func TestP13_1Slots(t *testing.T) {
	of := func(slots ...api.Slot) api.TacProg {
		f := plain("main")
		f.Slots = slots
		return having(f)
	}
	many := make([]api.Slot, 257)
	for i := range many {
		many[i] = api.Slot{Size: 16384, Align: 4}
	}
	verdict(t, of(many[:255]...), true, "255 slots")
	verdict(t, of(many[:256]...), true, "256 slots")
	verdict(t, of(many...), false, "257 slots")
	for _, size := range append(far(), -4, -1, 0, 1, 2, 3, 4, 5, 16383, 16384) {
		for _, align := range []int{-4, -1, 0, 1, 2, 3, 4, 5, 6, 7, 8, 16, 257, 1 << 32, 1<<32 + 4} {
			s := api.Slot{Size: size, Align: align}
			ok := 1 <= size && size <= 16384 && (align == 1 || align == 2 || align == 4)
			verdict(t, of(s), ok, "slot", s)
			verdict(t, of(many[0], s, many[1]), ok, "slot between", s)
			verdict(t, of(many[0], many[1], s), ok, "last slot", s)
		}
	}
}

// lasting is a program whose function has n instructions, the last one this.
func lasting(n int, last api.Ins) api.TacProg {
	f := api.TacFunc{Name: "main", Temps: 1}
	for range n - 1 {
		f.Code = append(f.Code, put(num(1)))
	}
	f.Code = append(f.Code, last)
	return having(f)
}

// TestP13_1ManyInstructions asks how many instructions there may be.
func TestP13_1ManyInstructions(t *testing.T) {
	verdict(t, having(api.TacFunc{Name: "main"}), false, "no instruction")
	verdict(t, having(api.TacFunc{Name: "main", Code: []api.Ins{}}), false, "an empty list")
	verdict(t, having(plain("main"), api.TacFunc{Name: "f"}), false, "no instruction of another")
	for _, n := range []int{1, 2, 16383, 16384} {
		verdict(t, lasting(n, jump(n-1)), true, "instructions", n)
		verdict(t, lasting(n, jump(n)), false, "instructions", n, "and a jump behind them")
	}
	verdict(t, lasting(16385, jump(0)), false, "16385 instructions")
	verdict(t, lasting(16385, exit(num(0))), false, "16385 instructions")
}

// TestP13_1LastInstruction asks which instruction may be the last one.
func TestP13_1LastInstruction(t *testing.T) {
	for _, x := range samples() {
		ends := x.Op == api.TacRet || x.Op == api.TacJump || x.Op == api.TacExit
		verdict(t, world(put(num(1)), put(num(2)), x), ends, "last", x)
		verdict(t, world(exit(num(0)), ret(num(0)), x), ends, "last behind ends", x)
		verdict(t, world(x, put(num(1)), exit(num(0))), true, "first", x)
	}
}

// TestP13_1Main asks which function may be main.
func TestP13_1Main(t *testing.T) {
	taking := plain("taking")
	taking.Params, taking.Temps = 1, 1
	p := having(plain("a"), taking, plain("b"))
	for _, n := range append(far(), -1, 0, 1, 2, 3, 64) {
		p.Main = n
		verdict(t, p, n == 0 || n == 2, "main", n)
	}
	q := having(taking)
	verdict(t, q, false, "no function without parameters")
	gives := plain("gives")
	gives.Gives, gives.Temps = true, 8
	verdict(t, having(gives), true, "main that gives")
	verdict(t, having(plain("nothing")), true, "main that does not")
}

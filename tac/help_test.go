package tac

import (
	"fmt"
	"math"
	"reflect"
	"slices"
	"testing"

	"mortise/api"
)

// tmp is the operand that is a temporary.
func tmp(n uint32) api.Arg { return api.Arg{Kind: api.ArgTemp, N: n} }

// num is the operand that is a number.
func num(n uint32) api.Arg { return api.Arg{Kind: api.ArgConst, N: n} }

// put, exit, jump, branch and ret are instructions that most tests need.
func put(a api.Arg) api.Ins { return api.Ins{Op: api.TacPut, D: -1, A: a} }

func exit(a api.Arg) api.Ins { return api.Ins{Op: api.TacExit, D: -1, A: a} }

func jump(n int) api.Ins { return api.Ins{Op: api.TacJump, D: -1, N: n} }

func branch(a api.Arg, n int) api.Ins { return api.Ins{Op: api.TacBranch, D: -1, A: a, N: n} }

func ret(a api.Arg) api.Ins { return api.Ins{Op: api.TacRet, D: -1, A: a} }

// empty is an object without data that could be seen.
func empty(name string, size, align int) api.TacObject {
	return api.TacObject{Name: name, Size: size, Align: align, Data: api.Data{Bytes: make([]byte, size)}}
}

// world is a program with this code in main: it has three temporaries and three slots, and gives. Beside it are two objects, and functions that take 0, 2, 8 arguments.
func world(code ...api.Ins) api.TacProg {
	none := api.Arg{}
	return api.TacProg{
		Objects: []api.TacObject{empty("g0", 8, 4), empty("g1", 16384, 1)},
		Funcs: []api.TacFunc{
			{Name: "silent", Code: []api.Ins{ret(none)}},
			{Name: "two", Params: 2, Temps: 2, Gives: true, Code: []api.Ins{ret(tmp(1))}},
			{Name: "main", Temps: 3, Gives: true, Slots: []api.Slot{{Size: 8, Align: 4}, {Size: 16384, Align: 1}, {Size: 1, Align: 2}}, Code: code},
			{Name: "eight", Params: 8, Temps: 9, Code: []api.Ins{ret(none)}},
			{Name: "fresh", Temps: 1, Gives: true, Code: []api.Ins{ret(tmp(0))}},
		},
		Main: 2,
	}
}

// samples are right instructions in world, one or more of each operation.
func samples() []api.Ins {
	list := []api.Ins{
		{Op: api.TacMov, D: 0, A: num(5)},
		{Op: api.TacMov, D: 2, A: tmp(2)},
		{Op: api.TacSlot, D: 1, N: 1, Off: 16384},
		{Op: api.TacGlobal, D: 2, N: 0, Off: 3},
		{Op: api.TacLoad, D: 0, A: tmp(1), Off: -16384, Width: 2, Signed: true},
		{Op: api.TacLoad, D: 1, A: num(4096), Width: 4},
		{Op: api.TacStore, D: -1, A: tmp(0), B: num(0), Off: 16384, Width: 1},
		{Op: api.TacCopy, D: -1, A: tmp(0), B: tmp(1), Off: 12, Width: 4},
		{Op: api.TacCall, D: -1, N: 0},
		{Op: api.TacCall, D: 2, N: 1, Args: []api.Arg{tmp(0), num(math.MaxUint32)}},
		{Op: api.TacCall, D: -1, N: 1, Args: []api.Arg{tmp(2), tmp(2)}},
		{Op: api.TacCall, D: -1, N: 3, Args: []api.Arg{tmp(0), num(1), tmp(1), num(2), tmp(2), num(3), tmp(0), num(4)}},
		{Op: api.TacCall, D: 0, N: 4},
		{Op: api.TacRet, D: -1, A: tmp(0)},
		{Op: api.TacJump, D: -1, N: 1},
		{Op: api.TacBranch, D: -1, A: tmp(1), N: 0},
		{Op: api.TacPut, D: -1, A: num(65)},
		{Op: api.TacGet, D: 1},
		{Op: api.TacExit, D: -1, A: tmp(2)},
	}
	for op := api.OpAdd; op <= api.OpLeU; op++ {
		list = append(list, api.Ins{Op: api.TacBin, Bin: op, D: 1, A: tmp(0), B: num(7)})
	}
	return list
}

// around is world with an instruction in it.
func around(x api.Ins) api.TacProg { return world(x, put(num(1)), exit(num(0))) }

// verdict asks what Check answers.
func verdict(t *testing.T, p api.TacProg, ok bool, what ...any) {
	t.Helper()
	want := api.ErrTac
	if ok {
		want = api.OK
	}
	if got := Check(p); got != want {
		t.Errorf("%.600q: Check says %d, want %d", fmt.Sprint(what...), got, want)
	}
}

// written is what Print writes of a program that must have a text.
func written(t testing.TB, p api.TacProg) string {
	t.Helper()
	s, err := Print(p)
	if err != api.OK {
		t.Fatalf("Print: error %d", err)
	}
	return s
}

// read is the program of a text that must have one.
func read(t testing.TB, s string) api.TacProg {
	t.Helper()
	p, err := Parse(s)
	if err != api.OK {
		t.Fatalf("Parse of %.400q: error %d", s, err)
	}
	return p
}

// refused asks that texts have no program, and that nothing is answered of them.
func refused(t *testing.T, texts ...string) {
	t.Helper()
	for _, s := range texts {
		if p, err := Parse(s); err != api.ErrTac || !reflect.DeepEqual(p, api.TacProg{}) {
			t.Errorf("Parse of %.400q: error %d, %.400q", s, err, fmt.Sprint(p))
		}
	}
}

// copied is a program in new memory, whose empty lists are all nil.
func copied(p api.TacProg) api.TacProg {
	q := api.TacProg{Main: p.Main}
	for _, o := range p.Objects {
		o.Data.Bytes = append([]byte(nil), o.Data.Bytes...)
		o.Data.Relocs = append([]api.Reloc(nil), o.Data.Relocs...)
		q.Objects = append(q.Objects, o)
	}
	for _, f := range p.Funcs {
		f.Slots = append([]api.Slot(nil), f.Slots...)
		f.Code = append([]api.Ins(nil), f.Code...)
		for i, x := range f.Code {
			f.Code[i].Args = append([]api.Arg(nil), x.Args...)
		}
		q.Funcs = append(q.Funcs, f)
	}
	return q
}

// same tells whether two programs are the same, nil and empty lists being so.
func same(p, q api.TacProg) bool { return reflect.DeepEqual(copied(p), copied(q)) }

// sameIns tells whether two instructions are the same.
func sameIns(x, y api.Ins) bool {
	if !slices.Equal(x.Args, y.Args) {
		return false
	}
	x.Args, y.Args = nil, nil
	return reflect.DeepEqual(x, y)
}

// far are numbers that are beyond every range; some lie within one, if taken modulo 2^8, 2^16 or 2^32.
func far() []int {
	return []int{
		math.MinInt, math.MinInt + 1, -1 << 32, 1 - 1<<32, -1 << 31, -65536, -16385, -256, -5, -2,
		16385, 65536, 65537, 1<<31 - 1, 1 << 31, 1<<32 - 1, 1 << 32, 1<<32 + 1, 1<<32 + 4, math.MaxInt - 4, math.MaxInt,
	}
}

package flow

import (
	"fmt"
	"reflect"
	"testing"

	"mortise/api"
	"mortise/tac"
)

// tmp is the operand that is a temporary.
func tmp(n int) api.Arg { return api.Arg{Kind: api.ArgTemp, N: uint32(n)} }

// num is the operand that is a number.
func num(n uint32) api.Arg { return api.Arg{Kind: api.ArgConst, N: n} }

// mov, add, put, exit, jump, branch and ret are instructions that most tests need.
func mov(d int, a api.Arg) api.Ins { return api.Ins{Op: api.TacMov, D: d, A: a} }

func add(d int, a, b api.Arg) api.Ins {
	return api.Ins{Op: api.TacBin, Bin: api.OpAdd, D: d, A: a, B: b}
}

func put(a api.Arg) api.Ins { return api.Ins{Op: api.TacPut, D: -1, A: a} }

func exit(a api.Arg) api.Ins { return api.Ins{Op: api.TacExit, D: -1, A: a} }

func jump(n int) api.Ins { return api.Ins{Op: api.TacJump, D: -1, N: n} }

func branch(a api.Arg, n int) api.Ins { return api.Ins{Op: api.TacBranch, D: -1, A: a, N: n} }

func ret(a api.Arg) api.Ins { return api.Ins{Op: api.TacRet, D: -1, A: a} }

// code is a function of three temporaries.
func code(list ...api.Ins) api.TacFunc { return api.TacFunc{Name: "f", Temps: 3, Code: list} }

// shape is a function that has just these ways: of each instruction those that stand in its list, that is nothing (it ends), the next one, another one, or the next one and another one.
func shape(ways ...[]int) api.TacFunc {
	var list []api.Ins
	for i, to := range ways {
		switch {
		case len(to) == 0:
			list = append(list, ret(api.Arg{}))
		case len(to) == 1 && to[0] == i+1:
			list = append(list, put(num(0)))
		case len(to) == 1:
			list = append(list, jump(to[0]))
		case to[0] == i+1:
			list = append(list, branch(num(1), to[1]))
		default:
			panic("a branch leads to the next instruction, too")
		}
	}
	return code(list...)
}

// answer is all that the layer answers of a function.
type answer struct {
	Starts, Reach, Idom []int
	Heads               []int
	Loops               [][]int
	Depth               []int
	Ahead, Behind       [][]int
}

// answersOf asks every call, and what its number is.
func answersOf(f api.TacFunc) (answer, [6]api.Errno) {
	var a answer
	var err [6]api.Errno
	a.Starts, err[0] = Starts(f)
	a.Reach, err[1] = Reach(f)
	a.Idom, err[2] = Idom(f)
	a.Heads, a.Loops, err[3] = Loops(f)
	a.Depth, err[4] = Depth(f)
	a.Ahead, a.Behind, err[5] = Live(f)
	return a, err
}

// answers is what the layer answers of a function that has a graph.
func answers(t testing.TB, f api.TacFunc) answer {
	t.Helper()
	a, err := answersOf(f)
	if err != [6]api.Errno{} {
		t.Fatalf("errors %d of %s", err, shown(f))
	}
	return a
}

// refused asks that every call refuses a function, and answers nothing of it.
func refused(t *testing.T, f api.TacFunc, what ...any) {
	t.Helper()
	a, err := answersOf(f)
	for i, e := range err {
		if e != api.ErrFlow {
			t.Errorf("%v: call %d answers error %d", what, i, e)
		}
	}
	if !reflect.DeepEqual(settled(a), answer{}) {
		t.Errorf("%v: beside the error stands %v", what, a)
	}
}

// taken asks that every call takes a function.
func taken(t *testing.T, f api.TacFunc, what ...any) {
	t.Helper()
	if _, err := answersOf(f); err != [6]api.Errno{} {
		t.Errorf("%v: errors %d", what, err)
	}
}

// settled is an answer whose empty lists are all nil.
func settled(a answer) answer {
	v := reflect.ValueOf(&a).Elem()
	for i := range v.NumField() {
		if v.Field(i).Len() == 0 {
			v.Field(i).SetZero()
		}
	}
	for _, rows := range [][][]int{a.Loops, a.Ahead, a.Behind} {
		for i, row := range rows {
			if len(row) == 0 {
				rows[i] = nil
			}
		}
	}
	return a
}

// same tells whether two lists have the same in them.
func same(a any, b any) bool { return fmt.Sprint(a) == fmt.Sprint(b) }

// agrees asks that the layer answers of a function what the slow telling does.
func agrees(t *testing.T, f api.TacFunc) answer {
	t.Helper()
	got, want := settled(answers(t, f)), settled(told(f))
	g, w := reflect.ValueOf(got), reflect.ValueOf(want)
	for i := range g.NumField() {
		if !reflect.DeepEqual(g.Field(i).Interface(), w.Field(i).Interface()) {
			t.Fatalf("%s of %s: %v, want %v", g.Type().Field(i).Name, shown(f), g.Field(i), w.Field(i))
		}
	}
	return want
}

// shown is a function as a test tells of it.
func shown(f api.TacFunc) string {
	p := api.TacProg{Funcs: []api.TacFunc{f}}
	if s, err := tac.Print(p); err == api.OK {
		return s
	}
	s := fmt.Sprintf("%d temporaries;", f.Temps)
	for i, x := range f.Code {
		s += fmt.Sprintf(" %d: %+v;", i, x)
		if len(s) > 2000 {
			return s + " .."
		}
	}
	return s
}

// copied is a function in new memory.
func copied(f api.TacFunc) api.TacFunc {
	f.Slots = append([]api.Slot(nil), f.Slots...)
	f.Code = append([]api.Ins(nil), f.Code...)
	for i, x := range f.Code {
		f.Code[i].Args = append([]api.Arg(nil), x.Args...)
	}
	return f
}

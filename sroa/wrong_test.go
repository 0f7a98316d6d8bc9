package sroa

import (
	"fmt"
	"math"
	"reflect"
	"testing"

	"mortise/api"
)

// refused asks that Splits of function i, and Run, if it is to, refuse a program, and answer nothing besides.
func refused(t *testing.T, p api.TacProg, i int, want, run api.Errno) {
	t.Helper()
	if l, err := Splits(p, i); err != want || len(l) != 0 {
		t.Errorf("Splits of function %d: %v, error %d, want %d", i, l, err, want)
	}
	q, err := Run(p)
	if err != run || err != api.OK && !reflect.DeepEqual(q, api.TacProg{}) {
		t.Errorf("Run: error %d, want %d; %s", err, run, shown(q))
	}
}

// splitting is a program of which both functions' slots split.
func splitting(t *testing.T) api.TacProg {
	return program(t, "object o 4 4;func f 1 3;slot 4 4;addr t1 0 0;store t1 0 t0 4;load t2 t1 0 4;put t2;ret;"+
		"func main 0 2 gives;slot 4 4;addr t0 0 0;store t0 0 #65 2;load t1 t0 0 2 signed;call - 0 t1;ret t1;main 1")
}

// spoils has, by what they do, changes by which layer 13 refuses a program.
func spoils() map[string]func(p *api.TacProg) {
	return map[string]func(p *api.TacProg){
		"no functions":             func(p *api.TacProg) { p.Funcs = nil },
		"no program":               func(p *api.TacProg) { *p = api.TacProg{} },
		"Main past the end":        func(p *api.TacProg) { p.Main = 2 },
		"Main below 0":             func(p *api.TacProg) { p.Main = -1 },
		"Main with parameters":     func(p *api.TacProg) { p.Main = 0 },
		"a name twice":             func(p *api.TacProg) { p.Funcs[0].Name = "main" },
		"an object of nothing":     func(p *api.TacProg) { p.Objects[0].Size = 0 },
		"an object without bytes":  func(p *api.TacProg) { p.Objects[0].Data.Bytes = nil },
		"a slot of nothing":        func(p *api.TacProg) { p.Funcs[0].Slots[0].Size = 0 },
		"a slot by 3":              func(p *api.TacProg) { p.Funcs[0].Slots[0].Align = 3 },
		"no slots":                 func(p *api.TacProg) { p.Funcs[0].Slots = nil },
		"no temporaries":           func(p *api.TacProg) { p.Funcs[0].Temps = 0 },
		"too many temporaries":     func(p *api.TacProg) { p.Funcs[0].Temps = api.MaxTemps + 1 },
		"more parameters":          func(p *api.TacProg) { p.Funcs[0].Params = 4 },
		"parameters below 0":       func(p *api.TacProg) { p.Funcs[0].Params = -1 },
		"no code":                  func(p *api.TacProg) { p.Funcs[0].Code = nil },
		"no last return":           func(p *api.TacProg) { p.Funcs[0].Code = p.Funcs[0].Code[:4] },
		"an address of no slot":    func(p *api.TacProg) { p.Funcs[0].Code[0].N = 1 },
		"an address of slot -1":    func(p *api.TacProg) { p.Funcs[0].Code[0].N = -1 },
		"an address past the slot": func(p *api.TacProg) { p.Funcs[0].Code[0].Off = 5 },
		"an address below it":      func(p *api.TacProg) { p.Funcs[0].Code[0].Off = -1 },
		"an address of no D":       func(p *api.TacProg) { p.Funcs[0].Code[0].D = -1 },
		"a D past the end":         func(p *api.TacProg) { p.Funcs[0].Code[0].D = 3 },
		"a Width of 3":             func(p *api.TacProg) { p.Funcs[0].Code[1].Width = 3 },
		"a Width of 0":             func(p *api.TacProg) { p.Funcs[0].Code[1].Width = 0 },
		"an Off too far":           func(p *api.TacProg) { p.Funcs[0].Code[1].Off = api.MaxSize + 1 },
		"an A that is none":        func(p *api.TacProg) { p.Funcs[0].Code[1].A = api.Arg{} },
		"an A past the end":        func(p *api.TacProg) { p.Funcs[0].Code[1].A = tmp(3) },
		"an A far past the end":    func(p *api.TacProg) { p.Funcs[0].Code[1].A.N = math.MaxUint32 },
		"a word that is signed":    func(p *api.TacProg) { p.Funcs[0].Code[2].Signed = true },
		"an odd Op":                func(p *api.TacProg) { p.Funcs[0].Code[3].Op = 15 },
		"a jump past the end":      func(p *api.TacProg) { p.Funcs[0].Code[4] = api.Ins{Op: api.TacJump, D: -1, N: 5} },
		"a jump to -1":             func(p *api.TacProg) { p.Funcs[0].Code[4] = api.Ins{Op: api.TacJump, D: -1, N: -1} },
		"a store with Args":        func(p *api.TacProg) { p.Funcs[1].Code[1].Args = []api.Arg{tmp(0)} },
		"a call of no function":    func(p *api.TacProg) { p.Funcs[1].Code[3].N = 2 },
		"a call without arguments": func(p *api.TacProg) { p.Funcs[1].Code[3].Args = nil },
		"a call that gives":        func(p *api.TacProg) { p.Funcs[1].Code[3].D = 1 },
	}
}

// TestP17_1Wrong: programs that layer 13 refuses, whatever the number, too; then numbers that are no function's.
func TestP17_1Wrong(t *testing.T) {
	for what, spoil := range spoils() {
		t.Run(what, func(t *testing.T) {
			for _, i := range []int{0, 1, 2, -1, math.MinInt, math.MaxInt} {
				p := splitting(t)
				spoil(&p)
				refused(t, p, i, api.ErrTac, api.ErrTac)
			}
		})
	}
	for _, i := range []int{-1, 2, 3, 64, math.MinInt, math.MaxInt, math.MaxInt32, -256} {
		refused(t, splitting(t), i, api.ErrArg, api.OK)
	}
	p := splitting(t)
	for i := range 2 {
		if l := splits(t, p, i); len(l) != 1 {
			t.Errorf("function %d: %v", i, l)
		}
	}
	agrees(t, p, "", 100)
}

// TestP17_1LastFunction: the number of the last one of MaxFuncs functions is a function's, the next one is not.
func TestP17_1LastFunction(t *testing.T) {
	p := api.TacProg{}
	for i := range api.MaxFuncs {
		f := program(t, "func f 0 1;slot 1 1;addr t0 0 0;ret;main 0").Funcs[0]
		f.Name = fmt.Sprint("f", i)
		p.Funcs = append(p.Funcs, f)
	}
	for i := range api.MaxFuncs {
		if l := splits(t, p, i); len(l) != 1 {
			t.Errorf("function %d: %v", i, l)
		}
	}
	refused(t, p, api.MaxFuncs, api.ErrArg, api.OK)
	ran(t, p)
	p.Funcs = append(p.Funcs, splitting(t).Funcs[0])
	refused(t, p, api.MaxFuncs, api.ErrTac, api.ErrTac)
}

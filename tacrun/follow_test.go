package tacrun

import (
	"bytes"
	"slices"
	"testing"

	"mortise/api"
)

// TestP14_3Fuel: with more fuel a run that ended is the same; with less it ends by StopFuel, or the same, and what it put out is a beginning.
func TestP14_3Fuel(t *testing.T) {
	ended, cut := 0, 0
	eachGrown(t, 41, 900, func(g *grower, p api.TacProg, input []byte) {
		whole := mustRun(t, p, input, grownFuel)
		if whole.Stop != api.StopFuel {
			ended++
			for _, more := range []int{grownFuel + 1, 2 * grownFuel, api.MaxFuel, whole.Steps} {
				if o := mustRun(t, p, input, more); !same(o, whole) {
					t.Fatalf("%sby %d: %s, by %d: %s", printed(p), grownFuel, shown(whole), more, shown(o))
				}
			}
		}
		for range 8 {
			less := 1 + g.Intn(whole.Steps)
			o := mustRun(t, p, input, less)
			if (o.Stop == api.StopFuel) != (less < whole.Steps || whole.Stop == api.StopFuel) || o.Stop != api.StopFuel && !same(o, whole) || !bytes.HasPrefix(whole.Out, o.Out) {
				t.Fatalf("%sby %d: %s, by %d: %s", printed(p), grownFuel, shown(whole), less, shown(o))
			}
			if o.Stop == api.StopFuel {
				cut++
			}
		}
	})
	if ended < 500 || cut < 4000 {
		t.Errorf("only %d runs end, and %d are cut off", ended, cut)
	}
}

// TestP14_3EachFuel: of a run with rounds, calls, copies and pointers at each fuel.
func TestP14_3EachFuel(t *testing.T) {
	p := programOf(t, lined("object s 12 4; data 03; reloc 8 0 0; func up 2 4 gives; slot 12 4; addr t2 0 0; copy t2 t0 12 4; load t3 t2 0 4; add t3 t3 #1; store t2 0 t3 4; add t3 t1 #97; put t3; branch t1 10; copy t0 t2 12 4; jump 12; sub t1 t1 #1; call - 0 t0 t1; load t3 t0 0 4; ret t3; func main 0 3 gives; mov t0 #0; glob t1 0 0; call t2 0 t1 t0; add t2 t2 #48; put t2; add t0 t0 #1; ltu t2 t0 #3; branch t2 1; load t1 t1 8 4; load t1 t1 0 4; ret t1; main 1"))
	whole := mustRun(t, p, nil, enough)
	if whole.Stop != api.StopExit || whole.Code != 6 || string(whole.Out) != "a4ba5cba6" {
		t.Fatal(shown(whole))
	}
	put := 0
	for fuel := 1; fuel < whole.Steps; fuel++ {
		o := mustRun(t, p, nil, fuel)
		if o.Stop != api.StopFuel || !bytes.HasPrefix(whole.Out, o.Out) || len(o.Out) < put {
			t.Fatalf("by %d: %s, behind %d bytes", fuel, shown(o), put)
		}
		put = len(o.Out)
		agrees(t, p, "", fuel)
	}
}

// TestP14_3Input: what is not read of the input does not matter.
func TestP14_3Input(t *testing.T) {
	asked := 0
	eachGrown(t, 42, 900, func(g *grower, p api.TacProg, input []byte) {
		w := newTeller(p, input, grownFuel)
		w.all()
		if w.read > len(input) {
			return
		}
		asked += min(w.read, 1)
		whole := mustRun(t, p, input, grownFuel)
		other := append(slices.Clone(input[:w.read]), "other"...)
		for _, in := range [][]byte{input[:w.read], other, append(slices.Clone(input), 1, 2, 3)} {
			if o := mustRun(t, p, in, grownFuel); !same(o, whole) {
				t.Fatalf("%son %v: %s, on %v: %s", printed(p), input, shown(whole), in, shown(o))
			}
		}
	})
	if asked < 50 {
		t.Errorf("only %d runs read their input, and not behind its end", asked)
	}
}

// TestP14_3Same: a program that was run is not changed, and runs the same again, whatever ran between; so does its text.
func TestP14_3Same(t *testing.T) {
	var progs []api.TacProg
	var inputs [][]byte
	var outcomes []api.Outcome
	eachGrown(t, 43, 600, func(g *grower, p api.TacProg, input []byte) {
		kept(t, p, input, func() { outcomes = append(outcomes, mustRun(t, p, input, grownFuel)) })
		if o := ran(t, printed(p), string(input), grownFuel); !same(o, outcomes[len(outcomes)-1]) {
			t.Errorf("%sText answers %s, Run %s", printed(p), shown(o), shown(outcomes[len(outcomes)-1]))
		}
		progs, inputs = append(progs, p), append(inputs, input)
	})
	for i := len(progs) - 1; i >= 0; i-- {
		if o := mustRun(t, progs[i], inputs[i], grownFuel); !same(o, outcomes[i]) {
			t.Errorf("at first %s, then %s", shown(outcomes[i]), shown(o))
		}
	}
}

// TestP14_3OwnMemory: what a run puts out is the caller's own.
func TestP14_3OwnMemory(t *testing.T) {
	p := programOf(t, inMain("", "get t0; lts t1 t0 #0; branch t1 5; put t0; jump 0; put #33; ret #0"))
	input := []byte("abc")
	first := mustRun(t, p, input, enough)
	for i := range first.Out {
		first.Out[i] = '?'
	}
	first.Out = append(first.Out, "more"...)
	if string(input) != "abc" {
		t.Errorf("the input is %q", input)
	}
	if o := mustRun(t, p, input, enough); string(o.Out) != "abc!" {
		t.Errorf("then %q", o.Out)
	}
	room := append(make([]byte, 0, 64), "ab"...) // what room a list has behind its end is nobody's
	copy(room[2:64], "XYZ")
	if o := mustRun(t, p, room, enough); string(o.Out) != "ab!" || string(room[2:5]) != "XYZ" {
		t.Errorf("%q, and behind the input %q", o.Out, room[2:5])
	}
}

// TestP14_3NoList: nil and empty lists are the same.
func TestP14_3NoList(t *testing.T) {
	p := programOf(t, lined("object x 4 4; func main 0 1 gives; get t0; call - 1; ret t0; func f 0 0; ret; main 0"))
	q := copied(p)
	q.Objects[0].Data.Relocs = []api.Reloc{}
	for i := range q.Funcs {
		q.Funcs[i].Slots = []api.Slot{}
		for k := range q.Funcs[i].Code {
			q.Funcs[i].Code[k].Args = []api.Arg{}
		}
	}
	for _, in := range [][]byte{nil, {}} {
		for _, prog := range []api.TacProg{p, q} {
			if o := mustRun(t, prog, in, enough); !same(o, api.Outcome{Stop: api.StopExit, Code: -1, Steps: 4}) {
				t.Error(shown(o))
			}
		}
	}
	p.Objects, q.Objects = nil, []api.TacObject{}
	if a, b := mustRun(t, p, nil, enough), mustRun(t, q, nil, enough); !same(a, b) {
		t.Errorf("%s, %s", shown(a), shown(b))
	}
}

// moves tells where the things of a list of n go in another order; the first few of them stay.
func (g *grower) moves(n, stay int) []int {
	to := make([]int, n)
	for i := range to {
		to[i] = i
	}
	g.Shuffle(n-stay, func(a, b int) { to[stay+a], to[stay+b] = to[stay+b], to[stay+a] })
	return to
}

// reordered is a list in another order.
func reordered[T any](list []T, to []int) []T {
	out := make([]T, len(list))
	for i, x := range list {
		out[to[i]] = x
	}
	return out
}

// moveObjects puts objects in another order.
func (g *grower) moveObjects(p *api.TacProg) {
	to := g.moves(len(p.Objects), 0)
	for i := range p.Objects {
		for k := range p.Objects[i].Data.Relocs {
			r := &p.Objects[i].Data.Relocs[k]
			r.Global = to[r.Global]
		}
	}
	p.Objects = reordered(p.Objects, to)
	eachIns(p, func(f int, x *api.Ins) {
		if x.Op == api.TacGlobal {
			x.N = to[x.N]
		}
	})
}

// moveFunctions puts functions in another order.
func (g *grower) moveFunctions(p *api.TacProg) {
	to := g.moves(len(p.Funcs), 0)
	eachIns(p, func(f int, x *api.Ins) {
		if x.Op == api.TacCall {
			x.N = to[x.N]
		}
	})
	p.Funcs, p.Main = reordered(p.Funcs, to), to[p.Main]
}

// moveSlots puts the slots of each function in another order.
func (g *grower) moveSlots(p *api.TacProg) {
	var all [][]int
	for i, f := range p.Funcs {
		all = append(all, g.moves(len(f.Slots), 0))
		p.Funcs[i].Slots = reordered(f.Slots, all[i])
	}
	eachIns(p, func(f int, x *api.Ins) {
		if x.Op == api.TacSlot {
			x.N = all[f][x.N]
		}
	})
}

// renumber gives the temporaries of each function other numbers, and at times some that nothing names; parameters keep theirs.
func (g *grower) renumber(p *api.TacProg) {
	var all [][]int
	for i := range p.Funcs {
		f := &p.Funcs[i]
		f.Temps += one(g, 0, 1, 7, 4096-f.Temps)
		all = append(all, g.moves(f.Temps, f.Params))
	}
	eachIns(p, func(f int, x *api.Ins) { renamed(x, all[f]) })
}

// renamed gives the temporaries of an instruction other numbers.
func renamed(x *api.Ins, to []int) {
	if x.D >= 0 {
		x.D = to[x.D]
	}
	list := []*api.Arg{&x.A, &x.B}
	for i := range x.Args {
		list = append(list, &x.Args[i])
	}
	for _, a := range list {
		if a.Kind == api.ArgTemp {
			a.N = uint32(to[a.N])
		}
	}
}

// swapParameters gives the two parameters of functions each other's number, and puts the arguments of their calls in the other order.
func (g *grower) swapParameters(p *api.TacProg) {
	eachIns(p, func(f int, x *api.Ins) {
		if x.Op == api.TacCall && len(x.Args) == 2 {
			x.Args[0], x.Args[1] = x.Args[1], x.Args[0]
		}
		if to := g.moves(p.Funcs[f].Temps, p.Funcs[f].Temps); p.Funcs[f].Params == 2 {
			to[0], to[1] = 1, 0
			renamed(x, to)
		}
	})
}

// eachIns hands on each instruction of a program with the number of its function.
func eachIns(p *api.TacProg, do func(f int, x *api.Ins)) {
	for i := range p.Funcs {
		for k := range p.Funcs[i].Code {
			do(i, &p.Funcs[i].Code[k])
		}
	}
}

// TestP14_3Order: a program whose functions, objects or slots stand in another order, or whose temporaries are numbered otherwise, runs the same; so one with other names.
func TestP14_3Order(t *testing.T) {
	turned := 0
	rename := func(p *api.TacProg) {
		for i := range p.Funcs {
			p.Funcs[i].Name = "#" + p.Funcs[i].Name[1:]
		}
		for i := range p.Objects {
			p.Objects[i].Name = "main"
		}
	}
	eachGrown(t, 44, 900, func(g *grower, p api.TacProg, input []byte) {
		want := mustRun(t, p, input, grownFuel)
		less := 1 + g.Intn(want.Steps)
		cut := mustRun(t, p, input, less)
		every := func(q *api.TacProg) {
			g.moveObjects(q)
			g.moveFunctions(q)
			g.moveSlots(q)
			g.renumber(q)
			g.swapParameters(q)
			rename(q)
		}
		for i, move := range []func(*api.TacProg){g.moveObjects, g.moveFunctions, g.moveSlots, g.renumber, g.swapParameters, rename, every} {
			q := copied(p)
			move(&q)
			if printed(q) != printed(p) {
				turned++
			}
			if o, c := mustRun(t, q, input, grownFuel), mustRun(t, q, input, less); !same(o, want) || !same(c, cut) {
				t.Fatalf("%s%s\nturned by %d:\n%s%s", printed(p), shown(want), i, printed(q), shown(o))
			}
		}
	})
	if turned < 4000 {
		t.Errorf("only %d programs were turned", turned)
	}
}

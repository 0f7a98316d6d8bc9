package tac

import (
	"math/rand"
	"reflect"
	"slices"
	"testing"

	"mortise/api"
)

// TestP13_4Again: Parse of what Print writes is the program, and Print of that is the text.
func TestP13_4Again(t *testing.T) {
	g := grower{rand.New(rand.NewSource(4))}
	for range 4000 {
		p := g.program()
		s := written(t, p)
		q := read(t, s)
		if !same(p, q) {
			t.Fatalf("Parse of Print of %v: %v", p, q)
		}
		if again := written(t, q); again != s {
			t.Fatalf("Print of Parse of %q: %q", s, again)
		}
		verdict(t, q, true, q)
	}
}

// TestP13_4Unlike: programs that are not the same have texts that are not.
func TestP13_4Unlike(t *testing.T) {
	g := grower{rand.New(rand.NewSource(5))}
	turned := 0
	for range 600 {
		p := g.program()
		for range 40 {
			q := copied(p)
			g.spoil(reflect.ValueOf(&q).Elem())
			if Check(q) != api.OK {
				continue
			}
			s := written(t, q)
			if (s == written(t, p)) != same(p, q) {
				t.Fatalf("%v and %v: %q", p, q, s)
			}
			if !same(read(t, s), q) {
				t.Fatalf("Parse of Print of %v", q)
			}
			if !same(p, q) {
				turned++
			}
		}
	}
	if turned < 1500 {
		t.Errorf("%d programs were turned: too few", turned)
	}
}

// comes is where a run comes from instruction i on, if what a branch asks for holds or not; -1, if the function ends there.
func comes(code []api.Ins, i int, holds bool) int {
	x := code[i]
	if x.Op == api.TacRet || x.Op == api.TacExit {
		return -1
	}
	if x.Op == api.TacJump || x.Op == api.TacBranch && holds {
		return x.N
	}
	return i + 1
}

// TestP13_4Runs: Next tells all instructions that a run can come to, and no others; runs do not leave the code.
func TestP13_4Runs(t *testing.T) {
	g := grower{rand.New(rand.NewSource(6))}
	for range 2000 {
		for _, f := range g.program().Funcs {
			for i := range f.Code {
				var want []int
				for _, holds := range []bool{false, true} {
					n := comes(f.Code, i, holds)
					if n >= len(f.Code) {
						t.Fatalf("a run leaves %v at %d", f.Code, i)
					}
					if n >= 0 && !slices.Contains(want, n) {
						want = append(want, n)
					}
				}
				slices.Sort(want)
				if got := Next(f.Code, i); !slices.Equal(got, want) {
					t.Fatalf("Next of %v at %d: %v, want %v", f.Code, i, got, want)
				}
			}
		}
	}
}

// TestP13_4Kept: no call changes what it is given, nor keeps it; the same calls answer the same.
func TestP13_4Kept(t *testing.T) {
	g := grower{rand.New(rand.NewSource(7))}
	for range 300 {
		p := g.program()
		before := copied(p)
		err := Check(p)
		s, wrong := Print(p)
		q, third := Parse(s)
		for _, f := range p.Funcs {
			for i, x := range f.Code {
				if !slices.Equal(Reads(x), Reads(x)) || Writes(x) != Writes(x) || !slices.Equal(Next(f.Code, i), Next(f.Code, i)) {
					t.Fatalf("two answers of %v", x)
				}
			}
		}
		if !same(p, before) {
			t.Fatalf("%v was changed to %v", before, p)
		}
		spoilAll(q)
		again, last := Parse(s)
		if text, e := Print(p); Check(p) != err || text != s || e != wrong || last != third || !same(again, p) {
			t.Fatalf("other answers of %v", p)
		}
	}
}

// spoilAll writes over every list of a program.
func spoilAll(p api.TacProg) {
	for _, o := range p.Objects {
		for i := range o.Data.Bytes {
			o.Data.Bytes[i] ^= 0x55
		}
		for i := range o.Data.Relocs {
			o.Data.Relocs[i] = api.Reloc{Off: -1}
		}
	}
	for _, f := range p.Funcs {
		for i := range f.Slots {
			f.Slots[i] = api.Slot{}
		}
		for i, x := range f.Code {
			for k := range x.Args {
				x.Args[k] = api.Arg{}
			}
			f.Code[i] = api.Ins{}
		}
	}
	clear(p.Objects)
	clear(p.Funcs)
}

// TestP13_4OwnLists: no two lists of what Parse answers share memory, nor the room behind them.
func TestP13_4OwnLists(t *testing.T) {
	_, text := whole()
	p := read(t, text)
	extend := func(p *api.TacProg) {
		for i := range p.Objects {
			d := &p.Objects[i].Data
			_ = append(d.Bytes, 0xee, 0xee)
			_ = append(d.Relocs, api.Reloc{Off: -1}, api.Reloc{Off: -1})
		}
		for i := range p.Funcs {
			_ = append(p.Funcs[i].Slots, api.Slot{Size: -1}, api.Slot{Size: -1})
			_ = append(p.Funcs[i].Code, api.Ins{}, api.Ins{})
			for k := range p.Funcs[i].Code {
				_ = append(p.Funcs[i].Code[k].Args, api.Arg{Kind: -1}, api.Arg{Kind: -1})
			}
		}
		_ = append(p.Objects, api.TacObject{}, api.TacObject{})
		_ = append(p.Funcs, api.TacFunc{}, api.TacFunc{})
	}
	extend(&p)
	if got := written(t, p); got != text {
		t.Errorf("Print: %q, want %q", got, text)
	}
}

// TestP13_1Any: whatever is handed in, calls end, and answer something.
func TestP13_1Any(t *testing.T) {
	g := grower{rand.New(rand.NewSource(8))}
	for range 400 {
		p := g.program()
		for range 60 {
			g.spoil(reflect.ValueOf(&p).Elem())
			err := Check(p)
			if s, wrong := Print(p); wrong != err || (s == "") != (err != api.OK) {
				t.Fatalf("Print of %v: %q, %d", p, s, wrong)
			}
			for _, f := range p.Funcs {
				for i, x := range f.Code {
					Reads(x)
					Writes(x)
					for _, n := range Next(f.Code, i) {
						if n < 0 || n >= len(f.Code) {
							t.Fatalf("Next of %v: %d", f.Code, n)
						}
					}
				}
			}
		}
	}
}

package sroa

import (
	"slices"
	"testing"

	"mortise/api"
)

// sample is the slots and instructions of a function, and which of its slots split.
type sample struct {
	text string
	want []int
}

// holdsIn asks which slots of function 0 split, of the programs that a frame makes of texts.
func holdsIn(t *testing.T, frame func(string) string, list ...sample) {
	t.Helper()
	for _, s := range list {
		p := program(t, frame(s.text))
		agrees(t, p, "ab", 100)
		if got := splits(t, p, 0); !slices.Equal(got, s.want) {
			t.Errorf("%s: %v, want %v", s.text, got, s.want)
		}
	}
}

// TestP17_1Named: slots split that some TacSlot names, whether they are read or written or not; rising.
func TestP17_1Named(t *testing.T) {
	holdsIn(t, inMain,
		sample{"ret #1", nil},
		sample{"slot 4 4;ret #1", nil},
		sample{"slot 4 4;addr t0 0 0;ret #1", []int{0}},
		sample{"slot 4 4;addr t0 0 4;ret #1", []int{0}},
		sample{"slot 4 4;jump 2;addr t0 0 0;ret #1", []int{0}},
		sample{"slot 4 4;slot 4 4;slot 4 4;addr t0 2 0;addr t1 0 0;ret #1", []int{0, 2}},
		sample{"slot 4 4;slot 4 4;slot 4 4;addr t0 2 0;addr t1 1 0;addr t2 0 0;addr t3 1 2;ret #1", []int{0, 1, 2}},
	)
	p := api.TacProg{Funcs: []api.TacFunc{{Name: "main", Temps: api.MaxSlots}}}
	f := &p.Funcs[0]
	var want []int
	for s := range api.MaxSlots {
		f.Slots = append(f.Slots, api.Slot{Size: 4, Align: 4})
		f.Code = append(f.Code, api.Ins{Op: api.TacSlot, D: s, N: api.MaxSlots - 1 - s})
		if s%3 == 0 {
			f.Code = append(f.Code, api.Ins{Op: api.TacMov, D: s, A: num(1)})
		} else {
			want = append(want, api.MaxSlots-1-s)
		}
	}
	f.Code = append(f.Code, api.Ins{Op: api.TacRet, D: -1})
	slices.Sort(want)
	if got := splits(t, p, 0); !slices.Equal(got, want) {
		t.Errorf("of MaxSlots slots %v, want %v", got, want)
	}
	agrees(t, p, "", 1000)
}

// TestP17_1Written: an address is kept that nothing else writes, and that is no parameter.
func TestP17_1Written(t *testing.T) {
	holdsIn(t, inMain,
		sample{"slot 4 4;addr t0 0 0;addr t0 0 0;ret #1", nil},
		sample{"slot 4 4;addr t0 0 0;addr t0 0 2;ret #1", nil},
		sample{"slot 4 4;addr t0 0 0;addr t1 0 0;ret #1", []int{0}},
		sample{"slot 4 4;slot 4 4;slot 4 4;addr t0 0 0;addr t0 2 0;addr t1 1 0;ret #1", []int{1}},
		sample{"slot 4 4;slot 4 4;addr t0 0 0;addr t0 1 0;addr t1 1 0;ret #1", nil},
		sample{"slot 4 4;addr t0 0 0;mov t0 #1;ret #1", nil},
		sample{"slot 4 4;mov t0 #1;addr t0 0 0;ret #1", nil},
		sample{"slot 4 4;jump 2;mov t0 #1;addr t0 0 0;ret #1", nil},
		sample{"slot 4 4;addr t0 0 0;ret #1;mov t0 #1;ret #1", nil},
		sample{"slot 4 4;add t0 #1 #1;addr t0 0 0;ret #1", nil},
		sample{"slot 4 4;get t0;addr t0 0 0;ret #1", nil},
		sample{"slot 4 4;addr t0 0 0;store t0 0 #7 4;load t0 t0 0 4;ret t0", nil},
		sample{"slot 4 4;addr t0 0 0;store t0 0 #7 4;load t1 t0 0 4;ret t1", []int{0}},
	)
	holdsIn(t, inSecond,
		sample{"slot 4 4;glob t2 0 0;addr t2 0 0;ret #1", nil},
		sample{"slot 4 4;branch t0 3;addr t2 0 0;call t2 0 #0 #1;ret #1", nil},
		sample{"slot 4 4;branch t0 3;addr t2 0 0;call - 0 #0 #1;ret #1", []int{0}},
		sample{"slot 4 4;addr t0 0 0;ret #1", nil},
		sample{"slot 4 4;addr t1 0 0;store t1 0 #1 4;ret #1", nil},
		sample{"slot 4 4;addr t2 0 0;store t2 0 #1 4;ret #1", []int{0}},
		sample{"slot 4 4;slot 4 4;addr t1 0 0;addr t2 1 0;ret #1", []int{1}},
	)
}

// TestP17_1Read: an address is kept that is read as A of loads and stores alone.
func TestP17_1Read(t *testing.T) {
	holdsIn(t, inMain,
		sample{"slot 4 4;addr t0 0 0;load t1 t0 0 4;ret #1", []int{0}},
		sample{"slot 4 4;addr t0 0 0;store t0 0 #1 4;ret #1", []int{0}},
		sample{"slot 4 4;addr t0 0 0;store t0 0 t1 4;ret #1", []int{0}},
		sample{"slot 4 4;addr t0 0 0;store t0 0 t0 4;ret #1", nil},
		sample{"slot 4 4;slot 4 4;addr t0 0 0;addr t1 1 0;store t0 0 t1 4;ret #1", []int{0}},
		sample{"slot 4 4;slot 4 4;addr t0 0 0;addr t1 1 0;store t1 0 t0 4;ret #1", []int{1}},
		sample{"slot 4 4;addr t0 0 0;store #0 0 t0 4;ret #1", nil},
		sample{"slot 4 4;addr t0 0 0;mov t1 t0;ret #1", nil},
		sample{"slot 4 4;addr t0 0 0;add t1 t0 #0;ret #1", nil},
		sample{"slot 4 4;addr t0 0 0;add t1 #0 t0;ret #1", nil},
		sample{"slot 4 4;addr t0 0 0;eq t1 t0 t0;ret #1", nil},
		sample{"slot 4 4;slot 4 4;addr t0 0 0;addr t1 1 0;eq t2 t0 t1;ret #1", nil},
		sample{"slot 4 4;slot 4 4;addr t0 0 0;addr t1 1 0;ret #1;copy t0 t1 4 4;ret #1", nil},
		sample{"slot 4 4;addr t0 0 0;ret #1;copy t0 t1 4 4;ret #1", nil},
		sample{"slot 4 4;addr t0 0 0;ret #1;copy t1 t0 4 4;ret #1", nil},
		sample{"slot 4 4;addr t0 0 0;branch t0 3;put #1;ret #1", nil},
		sample{"slot 4 4;addr t0 0 0;put t0;ret #1", nil},
		sample{"slot 4 4;addr t0 0 0;ret t0", nil},
		sample{"slot 4 4;addr t0 0 0;exit t0", nil},
		sample{"slot 4 4;addr t0 0 0;exit #1;put t0;ret #1", nil},
		// Numbers are no temporaries, and where nothing is read stands no temporary.
		sample{"slot 4 4;addr t0 0 0;put #0;add t1 #0 #0;branch #0 0;exit #0", []int{0}},
		sample{"slot 4 4;addr t0 0 0;load t1 #0 0 4;store #0 0 #0 4;exit #0", []int{0}},
		sample{"slot 4 4;addr t0 0 0;store t0 0 #5 4;exit #0;load t1 #0 2 2;exit #0", []int{0}},
		sample{"slot 4 4;addr t0 0 0;store t0 0 #5 4;exit #0;store #0 4 #1 1;exit #0", []int{0}},
	)
	holdsIn(t, inSecond,
		sample{"slot 4 4;branch t0 3;addr t2 0 0;call - 0 t2 #1;ret #1", nil},
		sample{"slot 4 4;branch t0 3;addr t2 0 0;call - 0 #1 t2;ret #1", nil},
		sample{"slot 4 4;branch t0 3;addr t2 0 0;call t3 0 t3 t3;ret #1", []int{0}},
	)
}

// TestP17_1All: one address that is not kept is enough, wherever it is read.
func TestP17_1All(t *testing.T) {
	holdsIn(t, inMain,
		sample{"slot 8 4;addr t0 0 0;addr t1 0 4;store t0 0 #1 4;load t2 t0 0 4;put t1;ret t2", nil},
		sample{"slot 8 4;addr t0 0 0;addr t1 0 4;store t0 0 #1 4;load t2 t0 0 4;ret t2", []int{0}},
		sample{"slot 8 4;addr t0 0 0;store t0 0 #1 4;load t2 t0 0 4;ret t2;addr t1 0 4;put t1;ret t2", nil},
		// What is accessed through an address that is not kept is no access; the slot escapes all the same.
		sample{"slot 8 4;slot 4 4;addr t0 0 0;addr t1 1 0;store t0 0 #1 4;load t2 t0 0 4;put t0;ret t2", []int{1}},
	)
}

// TestP17_1Within: accesses lie within the slot, at multiples of their Width, which is at most its Align.
func TestP17_1Within(t *testing.T) {
	for _, size := range []int{1, 2, 3, 4, 5, 6, 7, 8, 9} {
		for _, align := range []int{1, 2, 4} {
			for _, width := range []int{1, 2, 4} {
				for base := 0; base <= size; base++ {
					for off := -10; off <= 10; off++ {
						at := base + off
						fits := at >= 0 && at+width <= size && at%width == 0 && width <= align
						oneAccess(t, api.Slot{Size: size, Align: align}, base, off, width, fits)
					}
				}
			}
		}
	}
	oneAccess(t, api.Slot{Size: api.MaxSize, Align: 4}, 0, api.MaxSize-4, 4, true)
	oneAccess(t, api.Slot{Size: api.MaxSize, Align: 4}, api.MaxSize, -api.MaxSize, 4, true)
	oneAccess(t, api.Slot{Size: api.MaxSize, Align: 4}, api.MaxSize, -api.MaxSize+1, 1, true)
	oneAccess(t, api.Slot{Size: api.MaxSize, Align: 4}, api.MaxSize, api.MaxSize, 4, false)
	oneAccess(t, api.Slot{Size: api.MaxSize, Align: 4}, 0, -api.MaxSize, 4, false)
	oneAccess(t, api.Slot{Size: api.MaxSize, Align: 4}, 0, api.MaxSize, 1, false)
}

// oneAccess asks whether a slot splits which a function stores in, or loads, once.
func oneAccess(t *testing.T, s api.Slot, base, off, width int, want bool) {
	t.Helper()
	for _, x := range []api.Ins{
		{Op: api.TacStore, D: -1, A: tmp(0), B: num(1), Off: off, Width: width},
		{Op: api.TacLoad, D: 1, A: tmp(0), Off: off, Width: width},
		{Op: api.TacLoad, D: 1, A: tmp(0), Off: off, Width: width, Signed: width < 4},
	} {
		for _, reached := range []bool{true, false} {
			f := api.TacFunc{Name: "main", Temps: 2, Slots: []api.Slot{s}, Code: []api.Ins{{Op: api.TacSlot, D: 0, Off: base}, x, {Op: api.TacRet, D: -1}}}
			if !reached {
				f.Code = slices.Insert(f.Code, 0, api.Ins{Op: api.TacRet, D: -1})
			}
			p := api.TacProg{Funcs: []api.TacFunc{f}}
			if got := len(splits(t, p, 0)) > 0; got != want {
				t.Errorf("a slot of %d by %d, from %d on, %d and %d bytes: %v", s.Size, s.Align, base, off, width, got)
			}
			if reached {
				agrees(t, p, "", 10)
			}
		}
	}
}

// TestP17_1Apart: accesses have the same place and Width, or share no byte.
func TestP17_1Apart(t *testing.T) {
	for _, first := range pieces(8) {
		for _, second := range pieces(8) {
			apart := first == second || first.at+first.width <= second.at || second.at+second.width <= first.at
			for _, base := range []int{0, 3, 8} {
				f := api.TacFunc{Name: "main", Temps: 3, Slots: []api.Slot{{Size: 4, Align: 4}, {Size: 8, Align: 4}, {Size: 8, Align: 4}}, Code: []api.Ins{
					{Op: api.TacSlot, D: 0, N: 1, Off: base},
					{Op: api.TacSlot, D: 1, N: 1, Off: 8 - base},
					{Op: api.TacStore, D: -1, A: tmp(0), B: num(77), Off: first.at - base, Width: first.width},
					{Op: api.TacStore, D: -1, A: tmp(1), B: num(1), Off: second.at - 8 + base, Width: second.width},
					{Op: api.TacLoad, D: 2, A: tmp(0), Off: first.at - base, Width: first.width},
					{Op: api.TacExit, D: -1, A: tmp(2)},
				}}
				p := api.TacProg{Funcs: []api.TacFunc{f}}
				if got := len(splits(t, p, 0)) > 0; got != apart {
					t.Errorf("%v and %v of one slot: %v", first, second, got)
				}
				if o := agrees(t, p, "", 10); o.Stop != api.StopExit {
					t.Errorf("%v and %v: stop %d", first, second, o.Stop)
				}
				p.Funcs[0].Code[1].N = 2
				if got := splits(t, p, 0); !slices.Equal(got, []int{1, 2}) {
					t.Errorf("%v and %v of two slots: %v", first, second, got)
				}
				agrees(t, p, "", 10)
			}
		}
	}
}

// pieces are all pieces that a slot of so many bytes may have.
func pieces(size int) []access {
	var l []access
	for _, width := range []int{1, 2, 4} {
		for at := 0; at+width <= size; at += width {
			l = append(l, access{at, width})
		}
	}
	return l
}

// TestP17_1Signs: accesses of one piece may be signed and not, loads and stores, through several addresses.
func TestP17_1Signs(t *testing.T) {
	holdsIn(t, inMain,
		sample{"slot 4 1;addr t0 0 1;addr t1 0 3;store t0 1 #200 1;load t2 t1 -1 1;load t3 t0 1 1 signed;add t2 t2 t3;ret t2", []int{0}},
		sample{"slot 4 2;addr t0 0 1;addr t1 0 4;store t0 1 #60000 2;load t2 t1 -2 2;load t3 t1 -2 2 signed;add t2 t2 t3;ret t2", []int{0}},
		sample{"slot 4 2;addr t0 0 1;addr t1 0 4;store t0 1 #60000 2;load t2 t1 -2 1;load t3 t1 -2 2 signed;add t2 t2 t3;ret t2", nil},
		sample{"slot 4 2;addr t0 0 1;addr t1 0 4;store t0 1 #60000 2;load t2 t1 -1 1;ret t2", nil},
	)
}

// TestP17_1Unreached: accesses in code that is not reached are accesses, and through addresses that are not set.
func TestP17_1Unreached(t *testing.T) {
	holdsIn(t, inMain,
		sample{"slot 4 4;addr t0 0 0;store t0 0 #5 4;load t1 t0 0 4;ret t1;load t2 t0 2 2;ret t2", nil},
		sample{"slot 4 4;addr t0 0 0;store t0 0 #5 4;load t1 t0 0 4;ret t1;load t2 t0 4 4;ret t2", nil},
		sample{"slot 4 4;addr t0 0 0;store t0 0 #5 4;load t1 t0 0 4;ret t1;load t2 t0 0 4;ret t2", []int{0}},
		sample{"slot 4 4;store t0 0 #5 4;addr t0 0 0;load t1 t0 0 4;ret t1", []int{0}},
		sample{"slot 4 4;jump 2;addr t0 0 0;store t0 0 #5 4;ret #1", []int{0}},
	)
}

// TestP17_1Others: what one function does with its slots and temporaries is nothing to another one.
func TestP17_1Others(t *testing.T) {
	p := program(t, "func f 0 2 gives;slot 4 4;slot 4 4;addr t0 0 0;addr t1 1 0;put t1;ret #1;"+
		"func g 1 2 gives;slot 4 4;slot 4 4;addr t0 0 0;addr t1 1 0;store t1 0 #3 4;ret #2;"+
		"func main 0 2 gives;slot 4 4;slot 4 4;addr t0 1 0;addr t1 0 0;load t0 t0 0 2;ret #2;main 2")
	for i, want := range [][]int{{0}, {1}, {0}} {
		if got := splits(t, p, i); !slices.Equal(got, want) {
			t.Errorf("function %d: %v, want %v", i, got, want)
		}
	}
	agrees(t, p, "", 10)
}

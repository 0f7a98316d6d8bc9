package sroa

import (
	"testing"

	"mortise/api"
)

// ending is a program, its input, how its run ends, and how many slots split in all its functions.
type ending struct {
	text, input string
	stop        api.Stop
	code        int
	out         string
	split       int
}

// ends asks how programs end, and that what becomes of them ends likewise.
func ends(t *testing.T, list ...ending) {
	t.Helper()
	for _, e := range list {
		p := program(t, e.text)
		o := agrees(t, p, e.input, 10000)
		if o.Stop != e.stop || o.Code != e.code || string(o.Out) != e.out {
			t.Errorf("%s: stop %d, code %d, out %q, want %d, %d, %q", e.text, o.Stop, o.Code, o.Out, e.stop, e.code, e.out)
		}
		n := 0
		for i := range p.Funcs {
			n += len(splits(t, p, i))
		}
		if n != e.split {
			t.Errorf("%s: %d slots split, want %d", e.text, n, e.split)
		}
	}
}

// exits is the ending of an only function that exits with a code.
func exits(code int, split int, text string) ending {
	return ending{text: inMain(text), stop: api.StopExit, code: code, split: split}
}

// TestP17_2Widths: what was stored by a Width is loaded by it, signed and not, as memory has it.
func TestP17_2Widths(t *testing.T) {
	for v, want := range map[string][5]string{ // by 1, by 1 signed, by 2, by 2 signed, by 4
		"0":          {"0", "0", "0", "0", "0"},
		"1":          {"1", "1", "1", "1", "1"},
		"127":        {"127", "127", "127", "127", "127"},
		"128":        {"128", "4294967168", "128", "128", "128"},
		"200":        {"200", "4294967240", "200", "200", "200"},
		"255":        {"255", "4294967295", "255", "255", "255"},
		"256":        {"0", "0", "256", "256", "256"},
		"32767":      {"255", "4294967295", "32767", "32767", "32767"},
		"32768":      {"0", "0", "32768", "4294934528", "32768"},
		"65535":      {"255", "4294967295", "65535", "4294967295", "65535"},
		"65536":      {"0", "0", "0", "0", "65536"},
		"65664":      {"128", "4294967168", "128", "128", "65664"},
		"2147483648": {"0", "0", "0", "0", "2147483648"},
		"4294967295": {"255", "4294967295", "65535", "4294967295", "4294967295"},
		"4294934528": {"0", "0", "32768", "4294934528", "4294934528"},
	} {
		for i, load := range []string{"1", "1 signed", "2", "2 signed", "4"} {
			for _, from := range []string{"t3", "#" + v} {
				store := "mov t3 #" + v + ";store t0 2 " + from + " " + load[:1]
				ends(t, exits(1, 1, "slot 8 4;addr t0 0 2;"+store+";load t1 t0 2 "+load+";eq t2 t1 #"+want[i]+";ret t2"))
			}
		}
	}
}

// TestP17_2Again: a piece has what was stored last; loads do not change it, whatever they are, nor do other pieces.
func TestP17_2Again(t *testing.T) {
	head := "slot 8 4;addr t0 0 0;store t0 0 #511 1;store t0 2 #98303 2;store t0 4 #7 4;"
	ends(t,
		exits(255, 1, head+"load t1 t0 0 1 signed;load t1 t0 0 1;ret t1"),
		exits(-1, 1, head+"load t1 t0 0 1;load t1 t0 0 1 signed;ret t1"),
		exits(32767, 1, head+"load t1 t0 2 2;store t0 0 #1 1;store t0 4 #1 4;load t1 t0 2 2 signed;ret t1"),
		exits(7, 1, head+"store t0 0 #1 1;store t0 2 #1 2;load t1 t0 4 4;ret t1"),
		exits(3, 1, head+"store t0 4 #3 4;load t1 t0 4 4;ret t1"),
		exits(10, 1, head+"load t1 t0 4 4;add t1 t1 #3;store t0 4 t1 4;mov t1 #0;load t2 t0 4 4;ret t2"),
		exits(7, 1, head+"load t1 t0 4 4;add t1 t1 #3;load t2 t0 4 4;ret t2"),
		exits(255, 1, head+"load t1 t0 0 1;load t2 t0 0 1 signed;mov t2 #5;load t3 t0 0 1;ret t3"),
		// A temporary that was stored, and then gets something else.
		exits(5, 1, "slot 4 4;mov t1 #5;addr t0 0 0;store t0 0 t1 4;mov t1 #6;load t2 t0 0 4;ret t2"),
		// What was loaded stays as it is, where something else is stored then.
		exits(5, 1, "slot 4 4;addr t0 0 0;store t0 0 #5 4;load t2 t0 0 4;store t0 0 #6 4;ret t2"),
		// One place of two slots, and one slot by two addresses.
		exits(56, 2, "slot 4 4;slot 4 4;addr t0 0 0;addr t1 1 0;store t0 0 #5 4;store t1 0 #6 4;load t2 t0 0 4;mul t2 t2 #10;load t3 t1 0 4;add t2 t2 t3;ret t2"),
		exits(65, 1, "slot 8 4;addr t0 0 4;addr t1 0 8;store t0 0 #5 4;store t0 -4 #6 4;load t2 t1 -8 4;mul t2 t2 #10;load t3 t1 -4 4;add t2 t2 t3;ret t2"),
	)
}

// TestP17_2Some: of some functions some slots split and some do not.
func TestP17_2Some(t *testing.T) {
	ends(t,
		exits(12, 1, "slot 4 4;slot 4 4;addr t0 0 0;addr t1 1 0;store t0 0 #5 4;store t1 0 #7 4;mov t2 t1;load t3 t2 0 4;load t4 t0 0 4;add t4 t4 t3;ret t4"),
		exits(12, 1, "slot 4 4;slot 4 4;addr t0 0 0;addr t1 1 0;store t0 0 #5 4;store t1 0 #7 4;mov t2 t0;load t3 t1 0 4;load t4 t2 0 4;add t4 t4 t3;ret t4"),
		exits(258, 1, "slot 4 4;slot 4 4;addr t0 0 0;addr t1 1 0;store t0 0 #2 1;store t0 1 #1 1;load t3 t0 0 2;store t1 0 t3 4;load t4 t1 0 4;ret t4"),
		exits(9, 2, "slot 4 4;slot 8 4;slot 4 4;slot 2 1;addr t0 0 0;addr t1 1 0;addr t2 2 0;store t0 0 #9 4;store t1 0 #1 4;store t1 4 #2 4;copy t2 t1 4 4;load t3 t0 0 4;addr t4 3 1;store t4 0 #5 1;ret t3"),
		// An address of a slot in a slot: the one of which it is escapes.
		exits(8, 1, "slot 4 4;slot 4 4;addr t0 0 0;addr t1 1 0;store t0 0 #8 4;store t1 0 t0 4;load t2 t1 0 4;load t3 t2 0 4;ret t3"),
		exits(0, 0, "slot 4 4;ret #0"),
		exits(3, 0, "slot 4 4;addr t0 0 0;store t0 0 #259 4;load t1 t0 0 1;ret t1"),
	)
}

// TestP17_2Ways: branches and jumps lead to what becomes of accesses, of addresses that are left out, and to what is behind them.
func TestP17_2Ways(t *testing.T) {
	ends(t,
		// to an address that is left out, from ahead, from behind, and from within a loop
		exits(5, 1, "slot 4 4;jump 2;exit #9;addr t0 0 0;store t0 0 #5 4;load t1 t0 0 4;ret t1"),
		exits(3, 1, "slot 4 4;mov t5 #0;addr t0 0 0;add t5 t5 #1;store t0 0 t5 1;lts t6 t5 #3;branch t6 1;load t1 t0 0 1;ret t1"),
		exits(4, 1, "slot 4 4;addr t0 0 0;get t5;store t0 0 #4 4;lts t6 t5 #0;branch t6 6;jump 0;load t1 t0 0 4;ret t1"),
		// to one of several in a row that are left out
		exits(6, 2, "slot 4 4;slot 4 4;branch #1 3;addr t1 1 0;addr t2 1 4;addr t0 0 0;store t0 0 #6 4;load t3 t0 0 4;ret t3"),
		exits(6, 2, "slot 4 4;slot 4 4;branch #0 3;addr t1 1 0;addr t2 1 4;addr t0 0 0;store t0 0 #6 4;load t3 t0 0 4;ret t3"),
		// to a load that is signed, past it, and from what is behind one
		exits(-1, 1, "slot 4 4;addr t0 0 0;store t0 0 #255 1;jump 4;exit #9;load t2 t0 0 1 signed;branch #1 7;exit #8;ret t2"),
		exits(7, 1, "slot 4 4;addr t0 0 0;store t0 0 #255 1;mov t2 #7;branch #1 5;load t2 t0 0 1 signed;ret t2"),
		exits(-2, 1, "slot 4 4;addr t0 0 0;store t0 0 #65535 2;jump 7;load t2 t0 0 2 signed;add t2 t2 #4294967295;ret t2;load t3 t0 0 2 signed;jump 3"),
		// to a store
		exits(2, 1, "slot 4 4;addr t0 0 0;store t0 0 #1 4;branch #1 5;store t0 0 #9 4;exit #9;store t0 0 #2 4;load t1 t0 0 4;ret t1"),
		// by a branch of what was loaded
		exits(1, 1, "slot 4 4;addr t0 0 0;store t0 0 #256 1;load t1 t0 0 1;branch t1 5;ret #1;ret #2"),
	)
}

// TestP17_2Rounds: a piece has in one round of a loop what was stored in an earlier one; what was stored on one way alone, is loaded there.
func TestP17_2Rounds(t *testing.T) {
	loop := "slot 8 4;addr t0 0 0;mov t5 #0;branch t5 4;store t0 0 #1 2;load t1 t0 0 2;mul t1 t1 #3;store t0 0 t1 2;add t5 t5 #1;lts t6 t5 #5;branch t6 2;"
	ends(t,
		exits(243, 1, loop+"load t2 t0 0 2;ret t2"),
		ending{text: inMain(loop + "load t2 t0 4 4;ret t2"), stop: api.StopUndef, split: 1},
		ending{text: inMain("slot 4 4;addr t0 0 0;load t1 t0 0 4;ret t1"), stop: api.StopUndef, split: 1},
		ending{text: inMain("slot 4 4;addr t0 0 0;load t1 t0 0 1 signed;ret t1"), stop: api.StopUndef, split: 1},
		ending{text: inMain("slot 4 4;addr t0 0 0;store t0 0 #1 2;load t1 t0 2 2;ret t1"), stop: api.StopUndef, split: 1},
		ending{text: inMain("slot 4 4;addr t0 0 0;store t0 0 #1 2;load t1 t0 0 4;ret t1"), stop: api.StopUndef},
		exits(0, 1, "slot 4 4;addr t0 0 0;branch #1 3;load t1 t0 0 4;ret #0"),
		ending{text: inMain("slot 4 4;get t1;branch t1 3;ret #9;addr t0 0 0;store t0 0 t1 4;load t2 t0 0 4;ret t2"), input: "A", stop: api.StopExit, code: 65, split: 1},
		ending{text: inMain("slot 4 4;get t1;eq t2 t1 #65;branch t2 4;addr t0 0 0;store t0 0 t1 4;load t2 t0 0 4;ret t2"), input: "A", stop: api.StopUndef, split: 1},
		ending{text: inMain("slot 4 4;get t1;eq t2 t1 #65;branch t2 4;addr t0 0 0;store t0 0 t1 4;load t2 t0 0 4;ret t2"), input: "B", stop: api.StopExit, code: 66, split: 1},
	)
}

// TestP17_2Calls: each call of a function has pieces of its own, with nothing in them at first.
func TestP17_2Calls(t *testing.T) {
	ends(t,
		// down and up again: each call has its number behind the call within it
		ending{text: "func f 1 4;slot 4 4;addr t1 0 0;store t1 0 t0 1;branch t0 4;ret;sub t2 t0 #1;call - 0 t2;load t3 t1 0 1;put t3;ret;" +
			"func main 0 1;call - 0 #67;ret;main 1", stop: api.StopDeep, split: 1},
		ending{text: "func f 1 4;slot 4 4;addr t1 0 0;store t1 0 t0 1;les t2 t0 #65;branch t2 6;sub t2 t0 #1;call - 0 t2;load t3 t1 0 1;put t3;ret;" +
			"func main 0 1;call - 0 #70;ret;main 1", stop: api.StopExit, out: "ABCDEF", split: 1},
		// a second call finds nothing of the first one
		ending{text: "func f 1 3 gives;slot 4 4;addr t1 0 0;branch t0 3;jump 4;store t1 0 t0 4;load t2 t1 0 4;ret t2;" +
			"func main 0 1 gives;call t0 0 #5;ret t0;main 1", stop: api.StopExit, code: 5, split: 1},
		ending{text: "func f 1 3 gives;slot 4 4;addr t1 0 0;branch t0 3;jump 4;store t1 0 t0 4;load t2 t1 0 4;ret t2;" +
			"func main 0 1 gives;call t0 0 #5;call t0 0 #0;ret t0;main 1", stop: api.StopUndef, split: 1},
		// an address that is set in the first call alone
		ending{text: "func f 1 3 gives;slot 4 4;branch t0 2;jump 3;addr t1 0 0;store t1 0 #3 4;load t2 t1 0 4;ret t2;" +
			"func main 0 1 gives;call t0 0 #5;ret t0;main 1", stop: api.StopExit, code: 3, split: 1},
		ending{text: "func f 1 3 gives;slot 4 4;branch t0 2;jump 3;addr t1 0 0;store t1 0 #3 4;load t2 t1 0 4;ret t2;" +
			"func main 0 1 gives;call t0 0 #5;call t0 0 #0;ret t0;main 1", stop: api.StopUndef, split: 1},
		ending{text: inMain("slot 4 4;store t0 0 #3 4;addr t0 0 0;ret #1"), stop: api.StopUndef, split: 1},
		// arguments and results are what was loaded; both functions split, and one has a slot that does not
		ending{text: "func f 2 5 gives;slot 2 2;slot 2 2;addr t2 0 0;store t2 0 t0 2;addr t3 1 0;store t3 0 t1 2;load t0 t2 0 2 signed;load t1 t3 0 1;sub t0 t0 t1;ret t0;" +
			"func main 0 4 gives;slot 8 4;addr t0 0 4;store t0 -4 #65535 4;store t0 0 #257 4;load t1 t0 -4 4;load t2 t0 0 4;call t3 0 t1 t2;store t0 0 t3 4;load t3 t0 0 4;ret t3;main 1", stop: api.StopExit, code: -2, split: 2},
	)
}

// TestP17_2Pointers: pointers are stored and loaded by Width 4, good ones and others.
func TestP17_2Pointers(t *testing.T) {
	head := "object o 8 4;data 0102030405060708;func dead 0 1 gives;slot 4 4;addr t0 0 0;ret t0;func main 0 9 gives;slot 8 4;addr t0 0 0;"
	for text, code := range map[string]int{
		"glob t1 0 0;store t0 0 t1 4;load t2 t0 0 4;load t3 t2 0 1;ret t3":                                           1,
		"glob t1 0 4;store t0 4 t1 4;load t2 t0 4 4;load t3 t2 0 2;ret t3":                                           1541,
		"glob t1 0 4;store t0 4 t1 4;load t2 t0 4 4;sub t3 t2 t1;ret t3":                                             0,
		"glob t1 0 4;store t0 0 t1 4;load t2 t0 0 4;add t2 t2 #4;store t0 0 t2 4;load t3 t0 0 4;sub t3 t3 t1;ret t3": 4,
		"glob t1 0 0;store t0 0 t1 4;store t0 0 #3 4;load t2 t0 0 4;ret t2":                                          3,
		"call t1 0;store t0 0 t1 4;load t2 t0 0 4;ret #5":                                                            5,
		"call t1 0;store t0 0 t1 4;load t2 t0 0 4;store t0 4 t2 4;ret #6":                                            6,
	} {
		ends(t, ending{text: head + text + ";main 1", stop: api.StopExit, code: code, split: 1})
	}
	ends(t,
		ending{text: head + "glob t1 0 0;store t0 0 t1 1;load t2 t0 0 1;ret #1;main 1", stop: api.StopUndef, split: 1},
		ending{text: head + "glob t1 0 0;store t0 0 t1 2;ret #1;main 1", stop: api.StopUndef, split: 1},
		ending{text: head + "glob t1 0 0;store t0 0 t1 4;load t2 t0 0 4;put t2;ret #1;main 1", stop: api.StopUndef, split: 1},
		ending{text: head + "call t1 0;store t0 0 t1 4;load t2 t0 0 4;add t3 t2 #0;ret #5;main 1", stop: api.StopUndef, split: 1},
	)
}

// TestP17_2Stops: exits from deep inside, divisions by zero of what was loaded, what was put out by then.
func TestP17_2Stops(t *testing.T) {
	ends(t,
		ending{text: inMain("slot 4 4;addr t0 0 0;store t0 0 #256 1;put #65;load t1 t0 0 1;divu t2 #5 t1;ret t2"), stop: api.StopZero, out: "A", split: 1},
		ending{text: inMain("slot 4 4;addr t0 0 0;store t0 0 #256 1;load t1 t0 0 1 signed;rems t2 #5 t1;ret t2"), stop: api.StopZero, split: 1},
		ending{text: inMain("slot 4 4;addr t0 0 0;store t0 0 #256 2;load t1 t0 0 2 signed;rems t2 #5 t1;ret t2"), stop: api.StopExit, code: 5, split: 1},
		ending{text: "func f 1 3;slot 4 4;addr t1 0 0;store t1 0 t0 2;load t2 t1 0 2 signed;put t2;exit t2;func main 0 1;call - 0 #65531;ret;main 1", stop: api.StopExit, code: -5, out: "\xfb", split: 1},
		ending{text: inMain("slot 4 4;addr t0 0 0;get t1;store t0 0 t1 1;load t1 t0 0 1;put t1;load t2 t0 0 1 signed;exit t2"), stop: api.StopExit, code: -1, out: "\xff", split: 1},
		ending{text: inMain("slot 4 4;addr t0 0 0;store t0 0 t5 4;ret #1"), stop: api.StopUndef, split: 1},
	)
}

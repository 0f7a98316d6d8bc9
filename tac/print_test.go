package tac

import (
	"fmt"
	"math"
	"slices"
	"strings"
	"testing"

	"mortise/api"
)

// lineOf is the line of an instruction in main of world.
func lineOf(t *testing.T, x api.Ins) string {
	t.Helper()
	lines := strings.Split(written(t, around(x)), "\n")
	return lines[slices.Index(lines, "func main 0 3 gives")+4]
}

// TestP13_3Lines asks for an instruction's line, and for the instruction of that line.
func TestP13_3Lines(t *testing.T) {
	for _, c := range []struct {
		x    api.Ins
		line string
	}{
		{api.Ins{Op: api.TacMov, D: 0, A: num(5)}, "mov t0 #5"},
		{api.Ins{Op: api.TacMov, D: 2, A: tmp(1)}, "mov t2 t1"},
		{api.Ins{Op: api.TacMov, D: 2, A: num(0)}, "mov t2 #0"},
		{api.Ins{Op: api.TacMov, D: 2, A: num(math.MaxUint32)}, "mov t2 #4294967295"},
		{api.Ins{Op: api.TacMov, D: 2, A: num(1 << 31)}, "mov t2 #2147483648"},
		{api.Ins{Op: api.TacBin, Bin: api.OpAdd, D: 1, A: tmp(0), B: tmp(0)}, "add t1 t0 t0"},
		{api.Ins{Op: api.TacBin, Bin: api.OpLeU, D: 1, A: num(10), B: tmp(2)}, "leu t1 #10 t2"},
		{api.Ins{Op: api.TacBin, Bin: api.OpDivS, D: 0, A: num(1), B: num(0)}, "divs t0 #1 #0"},
		{api.Ins{Op: api.TacSlot, D: 1, N: 1, Off: 16384}, "addr t1 1 16384"},
		{api.Ins{Op: api.TacSlot, D: 0}, "addr t0 0 0"},
		{api.Ins{Op: api.TacGlobal, D: 2, N: 1, Off: 7}, "glob t2 1 7"},
		{api.Ins{Op: api.TacLoad, D: 1, A: tmp(0), Off: 4, Width: 4}, "load t1 t0 4 4"},
		{api.Ins{Op: api.TacLoad, D: 1, A: tmp(0), Off: -4, Width: 2}, "load t1 t0 -4 2"},
		{api.Ins{Op: api.TacLoad, D: 1, A: tmp(0), Off: -16384, Width: 2, Signed: true}, "load t1 t0 -16384 2 signed"},
		{api.Ins{Op: api.TacLoad, D: 0, A: num(9), Width: 1, Signed: true}, "load t0 #9 0 1 signed"},
		{api.Ins{Op: api.TacStore, D: -1, A: tmp(0), Off: 12, B: tmp(1), Width: 4}, "store t0 12 t1 4"},
		{api.Ins{Op: api.TacStore, D: -1, A: num(8), Off: -1, B: num(6), Width: 1}, "store #8 -1 #6 1"},
		{api.Ins{Op: api.TacCopy, D: -1, A: tmp(0), B: tmp(2), Off: 12, Width: 4}, "copy t0 t2 12 4"},
		{api.Ins{Op: api.TacCall, D: -1, N: 0}, "call - 0"},
		{api.Ins{Op: api.TacCall, D: 0, N: 4}, "call t0 4"},
		{api.Ins{Op: api.TacCall, D: 2, N: 1, Args: []api.Arg{tmp(1), num(3)}}, "call t2 1 t1 #3"},
		{api.Ins{Op: api.TacCall, D: -1, N: 1, Args: []api.Arg{num(0), num(0)}}, "call - 1 #0 #0"},
		{api.Ins{Op: api.TacCall, D: -1, N: 3, Args: []api.Arg{tmp(0), num(1), tmp(1), num(2), tmp(2), num(3), tmp(0), num(4)}}, "call - 3 t0 #1 t1 #2 t2 #3 t0 #4"},
		{ret(tmp(0)), "ret t0"}, {ret(num(12)), "ret #12"}, {jump(2), "jump 2"}, {branch(tmp(1), 0), "branch t1 0"}, {branch(num(1), 2), "branch #1 2"},
		{put(num(65)), "put #65"}, {put(tmp(2)), "put t2"}, {api.Ins{Op: api.TacGet, D: 1}, "get t1"}, {exit(tmp(0)), "exit t0"}, {exit(num(3)), "exit #3"},
	} {
		if got := lineOf(t, c.x); got != c.line {
			t.Errorf("Print of %v: %q, want %q", c.x, got, c.line)
		}
		if got := read(t, strings.Replace(written(t, around(put(num(77)))), "put #77", c.line, 1)).Funcs[2].Code[0]; !sameIns(got, c.x) {
			t.Errorf("Parse of %q: %v, want %v", c.line, got, c.x)
		}
	}
}

// TestP13_3Operations asks for the names of the nineteen operations.
func TestP13_3Operations(t *testing.T) {
	names := strings.Fields("add sub mul divs divu rems remu and or xor shl shrs shru eq ne lts ltu les leu")
	for i, name := range names {
		x := api.Ins{Op: api.TacBin, Bin: api.BinOp(i + 1), D: 2, A: tmp(1), B: num(3)}
		if got := lineOf(t, x); got != name+" t2 t1 #3" {
			t.Errorf("Print of operation %d: %q", i+1, got)
		}
	}
}

// whole is a program with something of everything, and its text.
func whole() (api.TacProg, string) {
	first := api.TacObject{Name: "a", Size: 12, Align: 4, Data: api.Data{Bytes: make([]byte, 12), Relocs: []api.Reloc{{Off: 4, Global: 2, Add: 3}, {Off: 8, Global: 0, Add: 12}}}}
	copy(first.Data.Bytes, []byte{1, 0, 0xaf})
	last := api.TacObject{Name: "#17", Size: 3, Align: 2, Data: api.Data{Bytes: []byte{0, 0, 0xf0}}}
	p := api.TacProg{
		Objects: []api.TacObject{first, empty("a", 16384, 1), last},
		Funcs: []api.TacFunc{
			{Name: "a", Params: 2, Temps: 10, Slots: []api.Slot{{Size: 1, Align: 4}, {Size: 16384, Align: 1}}, Code: []api.Ins{{Op: api.TacLoad, D: 9, A: tmp(0), Width: 1, Signed: true}, branch(tmp(9), 0), ret(api.Arg{})}},
			{Name: "_main", Gives: true, Code: []api.Ins{{Op: api.TacCall, D: -1, N: 0, Args: []api.Arg{num(0), num(1)}}, ret(num(0))}},
		},
		Main: 1,
	}
	const text = "object a 12 4\ndata 0100af\nreloc 4 2 3\nreloc 8 0 12\nobject a 16384 1\nobject #17 3 2\ndata 0000f0\n" +
		"func a 2 10\nslot 1 4\nslot 16384 1\nload t9 t0 0 1 signed\nbranch t9 0\nret\nfunc _main 0 0 gives\ncall - 0 #0 #1\nret #0\nmain 1\n"
	return p, text
}

// TestP13_3Whole asks for a whole text.
func TestP13_3Whole(t *testing.T) {
	p, text := whole()
	if got := written(t, p); got != text {
		t.Errorf("Print: %q, want %q", got, text)
	}
	if got := read(t, text); !same(got, p) {
		t.Errorf("Parse: %v, want %v", got, p)
	}
	least := having(plain("m"))
	if got := written(t, least); got != "func m 0 0\nexit #0\nmain 0\n" {
		t.Errorf("Print: %q", got)
	}
}

// TestP13_3Data asks for the bytes of objects: all 0, the last 0, the last not.
func TestP13_3Data(t *testing.T) {
	for _, c := range []struct {
		bytes []byte
		line  string
	}{
		{[]byte{0}, ""}, {[]byte{0, 0, 0, 0, 0}, ""}, {[]byte{1}, "data 01\n"}, {[]byte{255}, "data ff\n"}, {[]byte{16, 0}, "data 10\n"}, {[]byte{0, 1}, "data 0001\n"},
		{[]byte{0, 0, 9, 0, 0}, "data 000009\n"}, {[]byte{0x12, 0x34, 0x56, 0x78, 0x9a, 0xbc, 0xde, 0xf0}, "data 123456789abcdef0\n"}, {[]byte{0x0f, 0xf0, 0xa0, 0}, "data 0ff0a0\n"},
	} {
		o := api.TacObject{Name: "x", Size: len(c.bytes), Align: 1, Data: api.Data{Bytes: c.bytes}}
		want := fmt.Sprintf("object x %d 1\n%sfunc main 0 0\nexit #0\nmain 0\n", len(c.bytes), c.line)
		if got := written(t, holding(o)); got != want {
			t.Errorf("Print: %q, want %q", got, want)
		}
		if got := read(t, want); !same(got, holding(o)) {
			t.Errorf("Parse of %q: %v", want, got)
		}
	}
	for v := range 256 {
		for place := range 3 {
			o := empty("x", 3, 1)
			o.Data.Bytes[place] = byte(v)
			s := written(t, holding(o))
			if has := strings.Contains(s, "data "+strings.Repeat("00", place)+fmt.Sprintf("%02x\n", v)); has != (v != 0) {
				t.Errorf("byte %d at %d: %q", v, place, s)
			}
			if !same(read(t, s), holding(o)) {
				t.Errorf("byte %d at %d is not read again", v, place)
			}
		}
	}
}

// TestP13_3Refuses: what Check refuses has no text, even if that were too long.
func TestP13_3Refuses(t *testing.T) {
	for _, p := range []api.TacProg{{}, having(), having(api.TacFunc{Name: "f"}), around(api.Ins{}), around(jump(3)), holding(empty("1", 1, 1)), lasting(16385, jump(0))} {
		if s, err := Print(p); s != "" || err != api.ErrTac {
			t.Errorf("Print of %.200q: %.200q, %d", fmt.Sprint(p), s, err)
		}
	}
	p := long(1<<20 + 1)
	p.Main = 99
	if s, err := Print(p); s != "" || err != api.ErrTac {
		t.Errorf("Print of a long program without main: %d bytes, %d", len(s), err)
	}
}

// long is a program whose text has that many bytes (at least some hundred): functions of 10000 instructions, and one of those that are left, whose name has the bytes that make no instruction.
func long(size int) api.TacProg {
	const line, room = len("put #0\n"), 60
	var p api.TacProg
	left := size - len("main 0\n")
	for left > 0 {
		f := api.TacFunc{Name: fmt.Sprintf("f%02d", len(p.Funcs))}
		left -= len("func f00 0 0\nret\n")
		for left >= line && len(f.Code) < 10000 {
			f.Code = append(f.Code, put(num(0)))
			left -= line
		}
		if left <= room {
			f.Name += strings.Repeat("x", left)
			left = 0
		}
		f.Code = append(f.Code, ret(api.Arg{}))
		p.Funcs = append(p.Funcs, f)
	}
	return p
}

// TestP13_3Long asks for texts of just as many bytes as there may be, and of one more.
func TestP13_3Long(t *testing.T) {
	const most = 1 << 20
	for size := most - 20; size <= most; size++ {
		s := written(t, long(size))
		if len(s) != size {
			t.Fatalf("a text of %d bytes, want %d", len(s), size)
		}
		if size >= most-1 {
			if got := read(t, s); !same(got, long(size)) {
				t.Errorf("a text of %d bytes is not read again", size)
			}
		}
	}
	for _, more := range []int{1, 2, 7, 20, 5000, most} {
		p := long(most + more)
		verdict(t, p, true, "a long program")
		if s, err := Print(p); s != "" || err != api.ErrArg {
			t.Errorf("Print of %d bytes too many: %d bytes, error %d", more, len(s), err)
		}
	}
}

// TestP13_3LongObjects: objects alone may be too long to be written.
func TestP13_3LongObjects(t *testing.T) {
	var list []api.TacObject
	for range api.MaxGlobals {
		o := empty("x", api.MaxSize, 4)
		o.Data.Bytes[api.MaxSize-1] = 1
		list = append(list, o)
	}
	verdict(t, holding(list...), true, "the greatest objects")
	if s, err := Print(holding(list...)); s != "" || err != api.ErrArg {
		t.Errorf("Print of the greatest objects: %d bytes, error %d", len(s), err)
	}
	if s := written(t, holding(list[:31]...)); !same(read(t, s), holding(list[:31]...)) {
		t.Error("31 of the greatest objects are not read again")
	}
	if s, err := Print(holding(list[:32]...)); s != "" || err != api.ErrArg {
		t.Errorf("Print of 32 of the greatest objects: %d bytes, error %d", len(s), err)
	}
}

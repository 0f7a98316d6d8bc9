package tacrun

import (
	"fmt"
	"math"
	"strings"
	"testing"

	"mortise/api"
	"mortise/memory"
	"mortise/word"
)

// edges are numbers at which something turns.
func edges() []uint32 {
	return []uint32{0, 1, 2, 3, 4, 5, 7, 8, 31, 32, 33, 255, 256, 1<<31 - 1, 1 << 31, 1<<31 + 1, 1<<32 - 8, 1<<32 - 4, 1<<32 - 2, 1<<32 - 1}
}

// operands tells for the values of a test how code comes to them in t0 or t1: numbers, pointers into two objects and a slot, pointers that are not good.
func operands() map[string]string {
	m := map[string]string{
		"unset": "mov t% t8", "ended": "call t% 1",
		"a0": "glob t% 0 0", "a4": "glob t% 0 4", "a8": "glob t% 0 8", "b0": "glob t% 1 0", "b8": "glob t% 1 8", "s0": "addr t% 0 0", "s4": "addr t% 0 4", "s8": "addr t% 0 8",
	}
	for _, n := range edges() {
		m[fmt.Sprintf("#%d", n)] = fmt.Sprintf("mov t%% #%d", n)
	}
	return m
}

// paired is the text of a program in which t0 and t1 have two of the operands' values, and this is done with them.
func paired(a, b, code string) string {
	first, second := strings.ReplaceAll(a, "%", "0"), strings.ReplaceAll(b, "%", "1")
	return lined("object a 8 4; object b 8 4; func main 0 9 gives; slot 8 4; " + first + "; " + second + "; " + code + "; func leak 0 1 gives; slot 8 4; addr t0 0 0; ret t0; main 0")
}

// valueOf is the value that an operand is, in a memory of two objects, the slot, and a block that ended.
func valueOf(name string) api.Val {
	var n uint32
	switch name[0] {
	case '#':
		fmt.Sscan(name[1:], &n)
		return number(n)
	case 'a', 'b', 's':
		fmt.Sscan(name[1:], &n)
		return api.Val{Kind: api.ValPtr, V: n, Block: strings.IndexByte("abs", name[0]) + 1}
	case 'e':
		return api.Val{Kind: api.ValPtr, Block: 4}
	}
	return api.Val{}
}

// withBlocks is that memory.
func withBlocks() *memory.Memory {
	m := memory.New()
	for range 4 {
		m.Make(8, 4)
	}
	m.End(4)
	return m
}

// TestP14_2Bin: each operation on each pair of values is layer 11's Bin.
func TestP14_2Bin(t *testing.T) {
	m := withBlocks()
	reach := map[api.Stop]int{}
	for op := api.OpAdd; op <= api.OpLeU; op++ {
		for a, first := range operands() {
			for b, second := range operands() {
				if len(a) > 3 && a[0] == '#' && len(b) > 3 && b[0] == '#' && op%3 > 0 { // enough of these
					continue
				}
				want, stop := m.Bin(op, valueOf(a), valueOf(b))
				reach[stop]++
				code := fmt.Sprintf("%s t2 t0 t1; ret t2", word.Name(op))
				if stop == 0 && want.Kind == api.ValPtr { // how far it is from its block's first byte
					base := []string{"", "glob t3 0 0", "glob t3 1 0", "addr t3 0 0"}[want.Block]
					code = fmt.Sprintf("%s t2 t0 t1; %s; sub t2 t2 t3; ret t2", word.Name(op), base)
				}
				o := ran(t, paired(first, second, code), "", enough)
				if stop != 0 && (o.Stop != stop || o.Code != 0) || stop == 0 && (o.Stop != api.StopExit || o.Code != word.Int(want.V)) {
					t.Fatalf("%s of %s and %s: %s; want stop %d, %v", word.Name(op), a, b, shown(o), stop, want)
				}
			}
		}
	}
	if reach[0] < 1000 || reach[api.StopZero] < 20 || reach[api.StopUndef] < 1000 {
		t.Errorf("too few of some stop: %v", reach)
	}
}

// TestP14_2Constants: an operand that is a number is that number, on either side.
func TestP14_2Constants(t *testing.T) {
	for op := api.OpAdd; op <= api.OpLeU; op++ {
		for _, a := range []uint32{0, 5, 1 << 31, math.MaxUint32} {
			for _, b := range []uint32{0, 3, 1<<31 - 1, math.MaxUint32} {
				v, ok := word.Bin(op, a, b)
				for _, x := range []string{
					fmt.Sprintf("%s t2 #%d #%d", word.Name(op), a, b), fmt.Sprintf("mov t2 #%d; %s t2 t2 #%d", a, word.Name(op), b), fmt.Sprintf("mov t2 #%d; %s t2 #%d t2", b, word.Name(op), a),
				} {
					if ok {
						runs(t, exits(x+"; ret t2", word.Int(v)))
					} else {
						runs(t, stops(x+"; ret t2", api.StopZero))
					}
				}
			}
		}
	}
	runs(t,
		undefined("add t0 #1 t1; ret #0"), undefined("add t0 t1 #1; ret #0"), undefined("divs t0 t1 #0; ret #0"), undefined("divu t0 #0 t1; ret #0"),
		exits("mov t0 #3; add t0 t0 t0; add t0 t0 t0; ret t0", 12),
	)
}

// TestP14_2Mov: D has A's value, whatever it is, and A keeps it.
func TestP14_2Mov(t *testing.T) {
	runs(t,
		exits("mov t0 #4294967295; mov t1 t0; mov t0 #2; sub t1 t1 t0; ret t1", -3),
		exits("mov t0 #5; mov t1 t0; mul t0 t0 t1; ret t0", 25),
		exits("mov t0 #5; mov t0 t0; ret t0", 5),
		exits("slot 8 4; addr t0 0 4; mov t1 t0; store t1 0 #9 4; load t2 t0 0 4; ret t2", 9),
		exits("slot 8 4; addr t0 0 4; mov t1 t0; mov t0 #1; store t1 0 #9 4; load t2 t1 0 4; ret t2", 9),
		exits("mov t0 t1; ret #3", 3),
		undefined("mov t0 t1; ret t0"),
		undefined("mov t0 #4; mov t0 t1; ret t0"),
		undefined("mov t1 t0; mov t0 #4; ret t1"),
		exits("mov t1 t0; mov t1 #4; ret t1", 4),
	)
}

// TestP14_2Addresses: a TacSlot and a TacGlobal are pointers to Off, wherever in the block that is, its end, too.
func TestP14_2Addresses(t *testing.T) {
	for off := range 9 {
		for _, x := range []string{"addr t0 1", "glob t0 1"} {
			other := strings.Replace(x, "t0 1", "t1 1", 1)
			ahead := fmt.Sprintf("%s %d; %s 0; ", x, off, other)
			of := func(code string, stop api.Stop, with int) sample {
				return sample{text: inMain("object x 8 4; object y 8 4", "slot 8 4; slot 8 4; "+ahead+code), stop: stop, code: with}
			}
			runs(t,
				of("sub t2 t0 t1; ret t2", api.StopExit, off),
				of(fmt.Sprintf("add t2 t0 #%d; sub t2 t2 t1; ret t2", 8-off), api.StopExit, 8),
				of(fmt.Sprintf("add t2 t0 #%d; ret #0", 9-off), api.StopUndef, 0),
				of("branch t0 4; ret #1; ret #2", api.StopExit, 2),
			)
			if off < 8 {
				runs(t, of(fmt.Sprintf("store t0 0 #%d 1; load t2 t1 %d 1; ret t2", 50+off, off), api.StopExit, 50+off))
			} else {
				runs(t, of("store t0 0 #50 1; ret #0", api.StopUndef, 0))
			}
		}
	}
}

// TestP14_2Branch: a TacBranch goes on at N, if its operand is true, by layer 11's Truth; else behind it.
func TestP14_2Branch(t *testing.T) {
	m := withBlocks()
	for a, first := range operands() {
		yes, stop := m.Truth(valueOf(a))
		want := sample{text: paired(first, "mov t1 #0", "branch t0 4; ret #5; ret #6"), stop: api.StopExit, code: 5}
		if yes {
			want.code = 6
		}
		if stop != 0 {
			want.stop, want.code = stop, 0
		}
		runs(t, want)
	}
	runs(t,
		exits("branch #1 2; ret #5; ret #6", 6),
		exits("branch #0 2; ret #5; ret #6", 5),
		exits("branch #2147483648 2; ret #5; ret #6", 6),
		exits("branch #256 2; ret #5; ret #6", 6),
		exits("mov t0 #2; branch t0 2; ret t0", 2),
		undefined("branch t0 1; ret #5"),
		stops("branch #1 0; ret #5", api.StopFuel),
		exits("branch #0 0; ret #5", 5),
	)
}

// TestP14_2Jump: a TacJump goes on at N, wherever that is.
func TestP14_2Jump(t *testing.T) {
	runs(t,
		stops("jump 0", api.StopFuel),
		stops("put #97; jump 1", api.StopFuel).with("a"),
		sample{text: inMain("", "jump 3; put #97; ret #1; put #98; jump 1"), stop: api.StopExit, code: 1, out: "ba"},
		sample{text: inMain("", "jump 2; ret #3; put #98; jump 1"), stop: api.StopExit, code: 3, out: "b"},
		exits("jump 1; jump 2; jump 3; ret #8", 8),
		sample{text: lined("func f 0 0; jump 2; put #97; ret; func main 0 0; call - 0; put #98; jump 3; put #99; ret; main 1"), stop: api.StopExit, out: "bc"},
	)
	long := "jump 16383; " + strings.Repeat("put #1; ", 16382) + "ret #4"
	runs(t, exits(long, 4))
}

// TestP14_2Put: the lowest byte of a number goes out.
func TestP14_2Put(t *testing.T) {
	for n, out := range map[uint32]string{0: "\x00", 65: "A", 127: "\x7f", 128: "\x80", 255: "\xff", 256: "\x00", 257: "\x01", 0x12345678: "\x78", 1 << 31: "\x00", 1<<32 - 1: "\xff", 1<<32 - 56: "\xc8"} {
		runs(t,
			exits(fmt.Sprintf("put #%d; ret #0", n), 0).with(out),
			exits(fmt.Sprintf("mov t0 #%d; put t0; put t0; ret t0", n), word.Int(n)).with(out+out),
		)
	}
	runs(t,
		undefined("put t0; ret #0"),
		undefined("slot 4 4; put #65; addr t0 0 0; put t0; ret #0").with("A"),
		sample{text: inMain("object x 4 4", "glob t0 0 0; put t0; ret #0"), stop: api.StopUndef},
	)
	p := programOf(t, inMain("", "mov t0 #512; put t0; add t0 t0 #1; ltu t1 t0 #768; branch t1 1; ret #0"))
	o := mustRun(t, p, nil, enough)
	for i := range 256 {
		if len(o.Out) != 256 || o.Out[i] != byte(i) {
			t.Fatalf("%s", shown(o))
		}
	}
}

// TestP14_2Get: bytes are from 0 to 255, and -1 stands behind the input's end, however often.
func TestP14_2Get(t *testing.T) {
	const echo = "mov t2 #0; get t0; lts t1 t0 #0; branch t1 8; sub t0 #255 t0; put t0; add t2 t2 #1; jump 1; get t1; and t0 t0 t1; get t1; and t0 t0 t1; ne t1 t0 #4294967295; branch t1 15; ret t2; ret #4294967291"
	all := make([]byte, 256)
	back := make([]byte, 256)
	for i := range all {
		all[i], back[i] = byte(i), byte(255-i)
	}
	if o := ran(t, inMain("", echo), string(all), enough); o.Stop != api.StopExit || o.Code != 256 || string(o.Out) != string(back) {
		t.Error(shown(o))
	}
	for input, code := range map[string]int{"": 0, "a": 1, "\x00": 1, "\xff\xff": 2, "\x00\xff\x00": 3} {
		if o := ran(t, inMain("", echo), input, enough); o.Stop != api.StopExit || o.Code != code || len(o.Out) != code {
			t.Errorf("%q: %s", input, shown(o))
		}
		agrees(t, programOf(t, inMain("", echo)), input, enough)
	}
	two := inMain("", "get t0; get t1; mul t1 t1 #1000; sub t0 t0 t1; ret t0")
	for input, code := range map[string]int{"": 999, "x": 'x' + 1000, "xy": 'x' - 'y'*1000, "xyz": 'x' - 'y'*1000, "\xff\x80": 255 - 128000} {
		if o := ran(t, two, input, enough); o.Stop != api.StopExit || o.Code != code {
			t.Errorf("%q: %s", input, shown(o))
		}
	}
	calls := lined("func f 0 1 gives; get t0; ret t0; func main 0 3 gives; get t0; call t1 0; get t2; put t2; put t1; put t0; ret #0; main 1")
	if o := ran(t, calls, "abc", enough); string(o.Out) != "cba" {
		t.Errorf("%s", shown(o))
	}
}

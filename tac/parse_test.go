package tac

import (
	"fmt"
	"math/rand"
	"regexp"
	"runtime"
	"slices"
	"strings"
	"testing"

	"mortise/api"
)

// TestP13_3WrongTexts has texts that are nearly one.
func TestP13_3WrongTexts(t *testing.T) {
	refused(t,
		"", "\n", " ", "\n\n", "x", "main 0", "main 0\n", "\x00", "\xff\xfe", "ä\n", "func", "func\n", "object\n", "object x 1 1\n", "object x 1 1\nmain 0\n",
		small[:len(small)-1], small+"\n", "\n"+small, " "+small, small+" ", small+"x", small+small, small+"main 0\n", strings.TrimSuffix(small, "main 0\n"),
		strings.ReplaceAll(small, "\n", "\r\n"), strings.ReplaceAll(small, "\n", "\n\n"), strings.ReplaceAll(small, "\n", " \n"), strings.ReplaceAll(small, "\n", "\r"), strings.ReplaceAll(small, " ", "  "), strings.ReplaceAll(small, " ", "\t"), strings.ReplaceAll(small, " ", "\u00a0"), strings.ToUpper(small),
		"\ufeff"+small, small+"\x00", strings.Replace(small, "\n", "\n \n", 1),
		strings.Replace(small, "main 0 1", "main 0 1 1", 1), strings.Replace(small, " gives", "", 1), strings.Replace(small, "gives", "Gives", 1), strings.Replace(small, "gives", "give", 1), strings.Replace(small, "gives", "gives gives", 1), strings.Replace(small, "gives", "signed", 1),
	)
	if p := read(t, small); len(p.Funcs) != 1 {
		t.Errorf("Parse: %v", p)
	}
}

// replaced is the text of whole, with another line in place of one.
func replaced(t *testing.T, old, fresh string) string {
	t.Helper()
	_, text := whole()
	if strings.Count("\n"+text, "\n"+old+"\n") == 0 {
		t.Fatalf("no line %q", old)
	}
	return strings.TrimPrefix(strings.Replace("\n"+text, "\n"+old+"\n", "\n"+fresh+"\n", 1), "\n")
}

// TestP13_3WrongHeads has lines of objects, functions and main that are nearly right.
func TestP13_3WrongHeads(t *testing.T) {
	for _, c := range []struct {
		old   string
		fresh []string
	}{
		{"object a 16384 1", []string{"object a 16385 1", "object a 016384 1", "object a +16384 1", "object a -16384 1", "object a 0 1", "object a 16384 0", "object a 16384 3", "object a 16384", "object a 16384 1 1", "object 16384 1", "object  16384 1", "object a  16384 1", "object a 16384 1 ", "object 1a 16384 1", "object a 16384 01", "object a 16384 8", "Object a 16384 1", "object a 18446744073709551617 1", "object a 4294967297 1", "object a 1e3 1", "object a 0x10 1", "object a 1_0 1", "object a 16384 #1", "object a 16384.0 1", "object a 99999999999999999999999999 1", "object # 16384 1", "object ä 1 1", "object " + strings.Repeat("n", 64) + " 1 1"}},
		{"data 0100af", []string{"data", "data ", "data 0100a", "data 0100af0", "data 0100af00", "data 0100AF", "data 0100aF", "data 01 00 af", "data 010000", "data 00", "data 0", "data 0100ag", "data 0100 af", "data 0100af ", "data  0100af", "data #0100af", "data 0x0100af", "data 01000000af", "data 0100000001", "data 01000000000000000000000001", "data 0100afdata", "data 0100a\xff", "data 0100af\ndata 01", "Data 0100af", "data 00000000af000000000000", "", "bytes 0100af"}},
		{"reloc 4 2 3", []string{"reloc 4 2", "reloc 4 2 3 0", "reloc 04 2 3", "reloc 4 02 3", "reloc 4 2 03", "reloc +4 2 3", "reloc -4 2 3", "reloc 4 -2 3", "reloc 4 2 -3", "reloc 4 2 4", "reloc 4 3 0", "reloc 8 2 3", "reloc 12 2 3", "reloc 0 2 3", "reloc 5 2 3", "reloc 4 #2 3", "reloc 4  2 3", "reloc 4 2 3 ", "Reloc 4 2 3", "reloc", "reloc ", "reloc 4294967300 2 3", "reloc 18446744073709551620 2 3", "reloc -0 2 3", "reloc 4 -0 3", "reloc 4 2 -0"}},
		{"func a 2 10", []string{"func a 2", "func a 2 10 give", "func a 2 10 gives", "func a 2 10 ", "func a 2  10", "func 2 10", "func  2 10", "func a 02 10", "func a 2 010", "func a +2 10", "func a -2 10", "func a 3 10", "func a 9 10", "func a 2 9", "func a 2 4097", "func a 2 1", "func _main 2 10", "func a 2 10 gives gives", "func a 2 t10", "Func a 2 10", "func a 4294967298 10", "function a 2 10", "func a -0 10", "func a 2 10 -"}},
		{"slot 16384 1", []string{"slot 16384", "slot 16384 1 1", "slot 16385 1", "slot 0 1", "slot -1 1", "slot 016384 1", "slot 16384 3", "slot 16384 8", "slot 16384 01", "slot 16384 1 ", "slot  16384 1", "Slot 16384 1", "slot", "slot #1 1", "slot 4294967297 1", "slot 16384 4294967297"}},
		{"main 1", []string{"main", "main ", "main 0", "main 2", "main -1", "main 01", "main +1", "main 1 1", "main 1 ", "main  1", "Main 1", "main #1", "main _main", "main 4294967297", "main 18446744073709551617", "main 1\n", "main 1\nmain 1", "", "main 1\n "}},
	} {
		for _, s := range c.fresh {
			refused(t, replaced(t, c.old, s))
		}
		if got := written(t, read(t, replaced(t, c.old, c.old))); got != replaced(t, c.old, c.old) {
			t.Errorf("the text itself is %q", got)
		}
	}
}

// TestP13_3RightHeads has lines that are right, but others.
func TestP13_3RightHeads(t *testing.T) {
	for _, c := range [][2]string{
		{"object a 16384 1", "object b 1 4"}, {"object a 16384 1", "object #0 16383 2"}, {"object a 16384 1", "object reloc 10 1"}, {"object a 16384 1", "object data 10 1"}, {"data 0100af", "data 00010001"}, {"data 0100af", "data 01"}, {"reloc 4 2 3", "reloc 4 0 0"}, {"reloc 4 2 3", "reloc 4 1 16384"},
		{"func a 2 10", "func slot 2 11"}, {"func a 2 10", "func main 2 4096"}, {"func a 2 10", "func #1 2 10"}, {"slot 16384 1", "slot 1 4"}, {"slot 16384 1", "slot 16383 2"},
	} {
		s := replaced(t, c[0], c[1])
		if got := written(t, read(t, s)); got != s {
			t.Errorf("Parse of %q has the text %q", s, got)
		}
	}
}

// TestP13_3WrongLines has lines of instructions that are nearly right, in main of world.
func TestP13_3WrongLines(t *testing.T) {
	text := written(t, world(put(num(1)), put(num(77)), exit(num(0))))
	for _, line := range []string{
		"", " ", "mov", "mov t0", "mov t0 #5 #5", "mov t0 5", "mov 0 #5", "mov #0 #5", "mov t0 #05", "mov t00 #5", "mov t0 #+5", "mov t0 #-5", "mov t0 #", "mov t #5", "mov t0 t", "mov t0 #4294967296", "mov t0 #18446744073709551616", "mov t0 #18446744073709551621", "mov t0 #99999999999999999999999", "mov t0 # 5", "mov  t0 #5", "mov t0  #5", "mov t0 #5 ", " mov t0 #5", "mov t0\t#5", "Mov t0 #5", "MOV t0 #5", "mov T0 #5", "mov t3 #5", "mov t0 t3", "mov t-1 #5", "mov - #5", "mov t0 -", "mov t4294967296 #5", "mov t0 t4294967296", "mov t0 #0x5", "mov t0 #5_0", "mov t0 #5.", "mov t0,#5", "mov t0 #5;", "mov t0 t0 t0", "mov t0 #-0", "mov t-0 #5", "mov t+0 #5", "mov t18446744073709551616 #1",
		"add", "add t1 t0", "add t1 t0 t0 t0", "add t0 #1 2", "addi t0 #1 #2", "Add t1 t0 t0", "+ t1 t0 t0", "adds t1 t0 t0", "div t1 t0 t0", "lt t1 t0 t0", "gts t1 t0 t0", "not t1 t0", "bin t1 t0 t0", "1 t1 t0 t0", "add - t0 t0", "and t0 #1 #4294967296", " t1 t0 t0", "t1 t0 t0",
		"addr t0 0", "addr t0 0 0 0", "addr t0 3 0", "addr t0 -1 0", "addr t0 0 9", "addr t0 0 -1", "addr t0 00 0", "addr t0 0 00", "addr t0 0 +1", "addr t0 #0 0", "addr 0 0 0", "addr t0 t0 0", "addr t0 0 4294967296", "addr t0 -0 0", "slot t0 0 0",
		"glob t0 0", "glob t0 2 0", "glob t0 0 9", "glob t0 -1 0", "glob t0 0 -1", "glob t0 0 08", "glob t3 0 0", "global t0 0 0",
		"load t0 t0 0", "load t0 t0 4", "load t0 t0 0 4 signed", "load t0 t0 0 3", "load t0 t0 0 0", "load t0 t0 0 8", "load t0 t0 -16385 4", "load t0 t0 16385 4", "load t0 t0 +4 4", "load t0 t0 -0 4", "load t0 t0 --4 4", "load t0 t0 -04 4", "load t0 t0 - 4", "load t0 t0 0 2 Signed", "load t0 t0 0 2 unsigned", "load t0 t0 0 2 signed signed", "load t0 t0 0 2 signed ", "load t0 t0 0 2 ", "load t0 0 t0 4", "load t0 t0 #0 4", "load t0 t0 0 02", "load t0 t0 0 -2", "load - t0 0 4", "load t0 t0 0 1signed", "load t0 t0 0 1  signed", "load signed t0 t0 0 1", "load t0 t0 18446744073709551616 4", "load t0 t0 -18446744073709551616 4",
		"store t0 0 t0", "store t0 0 t0 3", "store t0 t0 0 4", "store t0 0 t0 2 signed", "store t0 16385 t0 4", "store t0 -16385 t0 4", "store t0 +1 t0 4", "store t0 -0 t0 4", "store 0 0 t0 4", "store t0 0 0 4", "store t0 0 t0 4 ", "store t0 0 t0 4 4", "store t0 0 t0 04",
		"copy t0 t1 0 4", "copy t0 t1 6 4", "copy t0 t1 16388 4", "copy t0 t1 -4 4", "copy t0 t1 4", "copy t0 4 t1 4", "copy t0 t1 04 4", "copy t0 t1 4 4 4", "copy t0 t1 3 2", "copy t0 t1 4 3",
		"call", "call t0", "call 0", "call -", "call - ", "call - 5", "call - -1", "call -1 0", "call t-1 0", "call - 0 ", "call - 0 #1", "call - 1", "call - 1 #1", "call - 1 #1 #2 #3", "call - 1 #1 #2 ", "call - 1 #1  #2", "call - 1 1 2", "call - 1 #1, #2", "call - 00", "call t0 0", "call t3 4", "call t0 4 t0", "call -- 0", "call - - 0", "call t0 - 4", "call #0 4", "call t 4", "call T0 4", "call - silent", "call silent", "call t-0 4", "call - +0", "call  0", "call - 4294967296", "call t18446744073709551615 4", "call t4294967295 4",
		"ret", "ret ", "ret t3", "ret 0", "ret t0 t0", "ret -", "ret #0 ", "ret  #0", "return #0", "ret #00", "Ret #0",
		"jump", "jump ", "jump 3", "jump -1", "jump 00", "jump +1", "jump #1", "jump t0", "jump 1 1", "jump 1 ", "jmp 1", "jump 4294967297", "jump -0",
		"branch", "branch t0", "branch t0 3", "branch t0 -1", "branch 0 t0", "branch 0", "branch t0 01", "branch t0 1 1", "branch t0 t0", "branch t0 #1", "branch t3 0", "br t0 0", "branch t0 1 ",
		"put", "put ", "put 65", "put t3", "put t0 t0", "put #065", "put -", "put #65 ", "put A", "put 'A'",
		"get", "get ", "get 0", "get #0", "get t3", "get t0 t0", "get -", "get t-1", "get t0 ", "get t00",
		"exit", "exit ", "exit 0", "exit t3", "exit #0 #0", "exit #00", "exit -", "exit #-1",
		"slot 1 1", "data 01", "reloc 0 0 0", "object x 1 1", "func f 0 0", "func f 0 0 gives", "main 2", "main 0", "nop", "put #1\n", "put #1\r", "put #1\x00", "\x00put #1", "# put", "// put #1", "put #1 // one", "put\xa0#1", "pu", "putt #1", "object", "func", "xyz",
	} {
		refused(t, strings.Replace(text, "put #77", line, 1))
	}
}

// TestP13_3Order has the lines of a text in other orders.
func TestP13_3Order(t *testing.T) {
	forms := lineForms()
	_, text := whole()
	lines := strings.SplitAfter(strings.TrimSuffix(text, "\n"), "\n")
	lines[len(lines)-1] += "\n"
	good, bad := 0, 0
	ask := func(list []string) {
		if agree(t, forms, strings.Join(list, "")) {
			good++
		} else {
			bad++
		}
	}
	for i := range lines {
		ask(slices.Delete(slices.Clone(lines), i, i+1))
		ask(slices.Insert(slices.Clone(lines), i, "\n"))
		for k := range lines {
			ask(slices.Insert(slices.Clone(lines), k, lines[i]))
			other := slices.Clone(lines)
			other[i], other[k] = other[k], other[i]
			ask(other)
			ask(slices.Insert(slices.Delete(slices.Clone(lines), i, i+1), min(k, len(lines)-1), lines[i]))
		}
	}
	if good < 10 || bad < 300 {
		t.Errorf("%d texts are right, %d are not: too few", good, bad)
	}
}

// agree asks that a text has the program that the second telling says, or none, and that the program has this text.
func agree(t *testing.T, forms map[string]*regexp.Regexp, s string) bool {
	t.Helper()
	want, ok := told(forms, s)
	if !ok {
		refused(t, s)
		return false
	}
	got, err := Parse(s)
	if err != api.OK || !same(got, want) {
		t.Errorf("Parse of %q: %v, error %d, want %v", s, got, err, want)
	}
	if again, err := Print(got); again != s || err != api.OK {
		t.Errorf("Print of Parse of %q: %q, error %d", s, again, err)
	}
	return true
}

// TestP13_3Bytes turns, takes out and puts in each byte of texts.
func TestP13_3Bytes(t *testing.T) {
	forms := lineForms()
	_, first := whole()
	second := written(t, world(append(samples(), exit(num(0)))...))
	good, bad := 0, 0
	for _, text := range []string{first, second} {
		for i := range len(text) + 1 {
			for _, c := range []byte("0129 \n-t#gAsz\x00\xff") {
				for _, s := range []string{text[:i] + string([]byte{c}) + text[i:], text[:i] + string([]byte{c}) + text[min(i+1, len(text)):], text[:i] + text[min(i+1, len(text)):]} {
					if agree(t, forms, s) {
						good++
					} else {
						bad++
					}
				}
			}
		}
		for i := range len(text) {
			refused(t, text[:i])
		}
	}
	if good < 500 || bad < 10000 {
		t.Errorf("%d texts are right, %d are not: too few", good, bad)
	}
}

// TestP13_3Words turns, takes out and puts in words of grown texts.
func TestP13_3Words(t *testing.T) {
	forms := lineForms()
	g := grower{rand.New(rand.NewSource(31))}
	words := []string{"t0", "t1", "t7", "t8", "t-1", "#0", "#1", "#4294967295", "#4294967296", "-", "0", "1", "2", "4", "-1", "-4", "16384", "-16384", "gives", "signed", "mov", "add", "call", "ret", "jump", "main", "func", "slot", "object", "data", "reloc", "ff", "", "x", "00", "#00", "t00"}
	good := 0
	for range 400 {
		p := g.program()
		if len(p.Objects) > 0 && p.Objects[0].Size > 100 {
			continue
		}
		text := written(t, p)
		if !agree(t, forms, text) {
			t.Fatalf("the second telling does not know %q", text)
		}
		for range 60 {
			parts := strings.Split(text, " ")
			i := g.Intn(len(parts))
			switch g.Intn(4) {
			case 0:
				parts = slices.Delete(parts, i, i+1)
			case 1:
				parts = slices.Insert(parts, i, one(g, words...))
			case 2:
				parts[i] = one(g, words...)
			case 3:
				if _, behind, cut := strings.Cut(parts[i], "\n"); cut {
					parts[i] = one(g, words...) + "\n" + behind
				}
			}
			if agree(t, forms, strings.Join(parts, " ")) {
				good++
			}
		}
	}
	if good < 1000 {
		t.Errorf("%d texts are right: too few", good)
	}
}

// TestP13_3Refused: the text of a program that Check refuses is none.
func TestP13_3Refused(t *testing.T) {
	head := "func main 0 1\n"
	refused(t,
		strings.Repeat("object x 1 1\n", 257)+head+"ret\nmain 0\n",
		head+strings.Repeat("slot 1 1\n", 257)+"ret\nmain 0\n",
		head+strings.Repeat("ret\n", 16385)+"main 0\n",
		head+"ret\n"+head+"ret\nmain 0\n", "func main 1 1\nret\nmain 0\n", head+"main 0\n", head+"get t0\nmain 0\n", "func main 0 4097\nret\nmain 0\n", "func f 9 9\nret\n"+head+"ret\nmain 1\n",
		"object x 4 2\nreloc 0 0 0\n"+head+"ret\nmain 0\n", "object x 4 4\ndata 01\nreloc 0 0 0\n"+head+"ret\nmain 0\n", "object x 4 4\nreloc 0 0 5\n"+head+"ret\nmain 0\n",
	)
	for _, s := range []string{
		strings.Repeat("object x 1 1\n", 256) + head + "ret\nmain 0\n",
		head + strings.Repeat("slot 1 1\n", 256) + "ret\nmain 0\n",
		head + strings.Repeat("ret\n", 16384) + "main 0\n",
		"func main 0 4096\nret\nmain 0\n", "func f 8 8\nret\n" + head + "ret\nmain 1\n", "object x 4 4\nreloc 0 0 4\n" + head + "ret\nmain 0\n",
	} {
		if got := written(t, read(t, s)); got != s {
			t.Errorf("Print of Parse of %.100q: %.100q", s, got)
		}
	}
	var many, more strings.Builder
	for i := range 65 {
		fmt.Fprintf(&more, "func f%d 0 0\nret\n", i)
		if i < 64 {
			fmt.Fprintf(&many, "func f%d 0 0\nret\n", i)
		}
	}
	if got := read(t, many.String()+"main 63\n"); len(got.Funcs) != 64 || got.Main != 63 {
		t.Errorf("%d functions", len(got.Funcs))
	}
	refused(t, more.String()+"main 0\n", many.String()+"main 64\n")
}

// TestP13_3LongTexts: a text with a byte too many is none, though its lines are right.
func TestP13_3LongTexts(t *testing.T) {
	text := written(t, long(longest))
	if got := written(t, read(t, text)); got != text {
		t.Error("the longest text is not written again")
	}
	for _, name := range []string{"f00x", "f00xx"} {
		refused(t, strings.Replace(text, "func f00 ", "func "+name+" ", 1))
	}
	if s := strings.Replace(text, "func f00 ", "func f0 ", 1); !strings.Contains(s, "f0 ") || written(t, read(t, s)) != s {
		t.Error("a text that is a byte shorter is not read")
	}
}

// TestP13_3Hostile: long texts of other things end soon, and are none.
func TestP13_3Hostile(t *testing.T) {
	for _, s := range []string{"\n", " ", "object x 16384 1\n", "object x 1 1\n", "func f 0 0\n", "ret\n", "func f 0 0\nret\n", "slot 1 1\n", "#", "t", "0", "call - 0 ", "\xff", "data 01\n", "reloc 0 0 0\n", "main 0\n", "f ", "object "} {
		long := strings.Repeat(s, longest/len(s))
		refused(t, long, long+"\n", "func main 0 1\n"+long, "func main 0 1\ncall - 0 "+long+"\nret\nmain 0\n", long+"main 0\n", "object x 16384 4\ndata "+long, "main "+long, strings.Repeat(s, 3*longest/len(s)))
	}
}

// TestP13_3Room: what is asked for in a text that is none is not made first.
func TestP13_3Room(t *testing.T) {
	for _, s := range []string{strings.Repeat("object x 16384 1\n", longest/17) + "main 0\n", "object x 1073741824 4\n" + small, "object x 9223372036854775807 4\n" + small, "object x -1 4\n" + small} {
		var before, after runtime.MemStats
		runtime.ReadMemStats(&before)
		refused(t, s)
		runtime.ReadMemStats(&after)
		if used := after.TotalAlloc - before.TotalAlloc; used > 100<<20 {
			t.Errorf("Parse of %.40q takes %d bytes", s, used)
		}
	}
}

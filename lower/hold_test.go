package lower

import (
	"fmt"
	"math/rand"
	"strings"
	"testing"

	"mortise/api"
	"mortise/model"
	"mortise/tac"
	"mortise/tacrun"
)

// holder grows texts that hold records of some sizes at one time.
type holder struct{ *grower }

// sizes are those of the records A to D.
func sizes() []int { return []int{16384, 9001, 5002, 3} }

// holding is what the texts of a holder begin with: of each size a record r, a place v, a pointer p to it; functions that give a record (g), or end without one, if they are handed 0 (n), that take one (t), and that take two (h, and i, which gives a number).
func holding() string {
	text := showing
	for i, size := range sizes() {
		text += strings.NewReplacer("#", "ABCD"[i:i+1], "$", fmt.Sprint(size-2)).Replace("struct # { char f, c[$ + 1]; } r#, v#, *p# = &v#; struct # g#(int n) { r#.f = n; r#.c[$] = n + 1; return r#; } struct # n#(int n) { if (n) return g#(n); } struct # t#(struct # s, int n) { s.f += n; return s; } ")
	}
	for i := range sizes() {
		for j, size := range sizes() {
			text += strings.NewReplacer("#", "ABCD"[i:i+1], "@", "ABCD"[j:j+1], "$", fmt.Sprint(size-2)).Replace("struct # h#@(struct # a, struct @ b, int n) { out(a.f); out(b.c[$]); a.c[0] += b.f + n; return a; } int i#@(struct # a, struct @ b) { return a.f * 3 + a.c[0] + b.c[$]; } ")
		}
	}
	return text
}

// kind is one of the records' names.
func (g *holder) kind() string { return g.pick("A", "B", "C", "D", "D") }

// record grows a record of a kind.
func (g *holder) record(kind string, deep int) string {
	other := g.kind()
	names := strings.NewReplacer("#", kind, "@", other)
	if deep <= 0 {
		return names.Replace(g.pick("v#", "(*p#)", "g#(2)", "g#(getchar())", "n#(3)", "n#(getchar())", "n#(0)"))
	}
	one, n := g.record(kind, deep-1), g.number(deep-1)
	two := "@(" + one + ", " + g.record(other, deep-1)
	return names.Replace(g.pick("g#("+n+")", "n#("+n+")", "h#"+two+", "+n+")", "h#"+two+", "+n+")", "t#("+one+", "+n+")", "("+n+" ? "+one+" : "+g.record(kind, deep-1)+")", "("+n+", "+one+")", "(v# = "+one+")", "(*p# = "+one+")", "(n@("+n+"), "+one+")",
		"(struct #) { 1, "+n+" }", "(i#"+two+"), "+g.record(kind, deep-1)+")", "h#@(n#(0), (exit("+n+"), r@), 1)", "h#@("+one+", (exit(i#"+two+")), r@), 1)"))
}

// number grows a number.
func (g *holder) number(deep int) string {
	if deep <= 0 {
		return g.pick("1", "2", "3", "0", "getchar()")
	}
	kind, other := g.kind(), g.kind()
	return g.pick("1", "getchar()", "i"+kind+other+"("+g.record(kind, deep-1)+", "+g.record(other, deep-1)+")", g.record(kind, deep-1)+".f", "(exit("+g.number(deep-1)+"), 1)", "(getchar() && "+g.number(deep-1)+")")
}

// unit grows a text.
func (g *holder) unit() string {
	text := ""
	for range 3 {
		kind, deep := g.kind(), 2+g.Intn(4)
		text += strings.ReplaceAll(g.pick("v# = "+g.record(kind, deep), g.record(kind, deep), "out("+g.number(deep)+")", "(void) "+g.record(kind, deep)), "#", kind) + "; "
	}
	for i, size := range sizes() {
		text += fmt.Sprintf("dump(&v%[1]s, 2); out(v%[1]s.c[%[2]d]); ", "ABCD"[i:i+1], size-2)
	}
	return inMain(holding(), text+"return 0;")
}

// inRoom is a program's code, if no function may have more spare slots than are told, and whether one asked for more.
func inRoom(t *testing.T, p api.Prog, room int) (code api.TacProg, tight bool) {
	t.Helper()
	types, rooms := newGauge(p.Types), make([]int, len(p.Funcs))
	for i, b := range written(types, &p, nil) {
		rooms[i] = anyRoom
		if b.asked() > room {
			rooms[i], tight = room, true
		}
	}
	code = lowered(p)
	if !tight {
		return code, false
	}
	for i, b := range written(types, &p, rooms) {
		b.laySlots(true)
		code.Funcs[i] = b.TacFunc
	}
	if err := tac.Check(code); err != api.OK {
		t.Fatalf("layer 13 answers %d", err)
	}
	return code, true
}

// excused tells whether a run may end by StopFuel for want of spare slots: the fewer of these there are, the sooner.
func excused(o api.Outcome, room int) bool { return o.Steps > (room-2)*api.MaxSize*3/8 }

// compared tells how code that may have few spare slots runs: as C's machine says (1), or on without end (0), or another way (-1).
func compared(code api.TacProg, input []byte, want api.Outcome) int {
	o, _ := tacrun.Run(code, input, api.MaxFuel)
	switch {
	case o.Stop == want.Stop && o.Code == want.Code && string(o.Out) == string(want.Out):
		return 1
	case o.Stop == api.StopFuel && strings.HasPrefix(string(want.Out), string(o.Out)):
		return 0
	}
	return -1
}

// TestP15_3Hold: with however few spare slots, code's runs go as C's machine says, or on without end; and not that, as long as what is held may find room.
func TestP15_3Hold(t *testing.T) {
	g := &holder{&grower{Rand: rand.New(rand.NewSource(50))}}
	same := map[int]int{}
	for range 350 {
		text := g.unit()
		p := programOf(t, text)
		input := make([]byte, g.Intn(12))
		for i := range input {
			input[i] = byte(g.Intn(3))
		}
		want, _ := model.Run(p, input, 150000)
		if want.Stop != api.StopExit && want.Stop != api.StopZero {
			continue
		}
		if why := follows(lowered(p), input, want); why != "" {
			t.Fatalf("%s\non %v: %s, want %v", tail(text), input, why, want)
		}
		for room, tight := 1, true; tight; room++ {
			var code api.TacProg
			code, tight = inRoom(t, p, room)
			how := compared(code, input, want)
			if tight && how != 1 && (how < 0 || !excused(want, room)) {
				t.Fatalf("%s\non %v, %d slots: want %v", tail(text), input, room, want)
			}
			same[room] += max(0, how)
		}
	}
	if same[1] < 50 || same[2] < 30 || same[3] < 15 || same[4] < 5 {
		t.Errorf("runs that go as C's machine says, by slots: %v", same)
	}
}

// TestP15_3HoldExactly: how many spare slots texts need, one more than those with which their code's runs go on without end.
func TestP15_3HoldExactly(t *testing.T) {
	for body, least := range map[string]int{
		"hAD(gA(2), gD(3), 1);":                                        2,
		"hDA(gD(2), gA(3), 1);":                                        2,
		"hAA(gA(2), gA(3), 1);":                                        2,
		"hBC(gB(2), gC(3), 1);":                                        1,
		"hCB(gC(2), (vD = gD(1), gB(3)), 1);":                          1,
		"hBB(gB(2), gB(3), iBB(gB(3), gB(4)));":                        4,
		"hAA(gA(2), (nA(0), gA(3)), 1);":                               2,
		"hAA(gA(2), (nA(0), 1) ? gA(3) : rA, 1);":                      2,
		"nA(0); hAA(gA(2), gA(3), 1);":                                 2,
		"hAA((nA(0), gA(2)), gA(3), iAA(gA(4), gA(5)));":               4,
		"hAA(nA(0), (exit(3), rA), 1);":                                1,
		"hAA(nA(0), (exit(iDD(gD(3), gD(4))), rA), 1);":                1,
		"hAA(nA(0), (exit(iAD(gA(3), gD(4))), rA), 1);":                2,
		"hAA(gA(1), nA(0), (exit(iAD(gA(3), gD(4))), 1));":             2,
		"hDA(nD(0), gA(1), (exit(iDD(gD(3), gD(4))), 1));":             3,
		"hDA(gD(1), nA(0), (exit(iDD(gD(3), gD(4))), 1));":             2,
		"hAA(gA(1), gA(2), (exit(iAA(gA(3), gA(4))), 1));":             4,
		"hAA(nA(0), gA(2), (exit(iAA(gA(3), gA(4))), 1));":             3,
		"hAA(nA(0), nA(0), iAA(nA(0), (exit(4), nA(0))));":             1,
		"hAA(nA(0), vD.f ? vA : nA(0), (exit(iAA(gA(3), gA(4))), 1));": 2,
	} {
		p := programOf(t, inMain(holding(), body+" return 0;"))
		want, _ := model.Run(p, nil, enough)
		for room := 1; room <= 4; room++ {
			code, _ := inRoom(t, p, room)
			if how := compared(code, nil, want); want.Stop != api.StopExit || how < 0 || (how > 0) != (room >= least) {
				t.Errorf("%s: %d slots: %d, want %v", body, room, how, want)
			}
		}
	}
}

package lower

import (
	"fmt"
	"math/rand"
	"slices"
	"strings"
	"testing"

	"mortise/api"
	"mortise/model"
	"mortise/tacrun"
)

// nested is so many calls of h within one another, with one text for each of the arguments but the innermost one, which is another text.
func nested(calls int, arg, last string) string {
	for range calls {
		last = "h(" + strings.Repeat(arg+", ", 6) + last + ")"
	}
	return last
}

// seven is what texts begin with that hold records of so many bytes: some of these; what gives one that counts (g), what ends without one (none), what takes seven, and shows them (h), and what gives a number of one (of).
func seven(size int) string {
	return showing + fmt.Sprintf("struct S { unsigned char c[%d]; } s, s1, s2, s3, s4, s5; struct S g(void) { s.c[0]++; s.c[%d] = s.c[0] + 1; return s; } struct S none(void) { } int of(struct S s) { return s.c[0] + s.c[%[2]d]; } "+
		"struct S h(struct S a, struct S b, struct S c, struct S d, struct S e, struct S f, struct S i) { add(of(a)); add(of(b)); add(of(c)); add(of(d)); add(of(e)); add(of(f)); add(of(i)); a.c[0] += i.c[0]; return a; } ", size, size-1)
}

// many is so many of a text, with numbers for #.
func many(n int, text string) string {
	var all strings.Builder
	for i := range n {
		all.WriteString(strings.ReplaceAll(text, "#", fmt.Sprint(i)))
	}
	return all.String()
}

// tail is what a long text ends with.
func tail(text string) string { return text[max(0, len(text)-900):] }

// alike asks that the run of a text's code ends as it does on C's machine, even if it might end by StopFuel; and that it exits.
func alike(t *testing.T, text, input string) api.Outcome {
	t.Helper()
	want, _ := model.Run(programOf(t, text), []byte(input), api.MaxFuel)
	o, err := tacrun.Run(codeOf(t, text), []byte(input), limit(want.Steps))
	if err != api.OK || want.Stop != api.StopExit || o.Stop != want.Stop || o.Code != want.Code || string(o.Out) != string(want.Out) {
		t.Fatalf("%s\non %q: %v, want %v", tail(text), input, o, want)
	}
	return want
}

// soon asks so of a run that is no longer than one may be whose code's run must not end by StopFuel.
func soon(t *testing.T, text, input string) {
	t.Helper()
	if o := alike(t, text, input); o.Steps > freeSteps {
		t.Errorf("%s\ntakes %d steps", tail(text), o.Steps)
	}
}

// isTight tells whether a function of a text has fewer spare slots than it asks for.
func isTight(t *testing.T, text string) bool {
	t.Helper()
	p := programOf(t, text)
	return slices.ContainsFunc(roomsFor(&p, written(newGauge(p.Types), &p, nil)), func(room int) bool { return room < anyRoom })
}

// TestP15_3HeldNowhere: what a function could hold on a way that is not come to takes no room from the calls that go on.
func TestP15_3HeldNowhere(t *testing.T) {
	for _, own := range []string{"", many(30, "int v# = n; "), many(29, "struct S v#; v#.c[0] = n; "), many(31, "struct { char c[16384]; } v#; ")} {
		for _, held := range []string{nested(4, "g()", "g()"), nested(6, "g()", "g()"), nested(11, "g()", "g()"), nested(13, "g()", "g()"), nested(40, "g()", "g()"), nested(60, "s1", "g()"), nested(30, "none()", "(exit(1), s)"), nested(9, "(n ? g() : s)", "s1 = g()")} {
			for _, size := range []int{16384, 8193, 700} {
				r := seven(size) + "int r(int n) { " + own + "if (n) return r(n - 1); if (n) " + held + "; return 7; } "
				runs(t, sample{text: inMain(r, "putchar('a'); return r(62);"), stop: api.StopExit, code: 7, out: "a"})
			}
		}
	}
}

// TestP15_3HeldByChains: likewise of many functions that call one another, each of which could hold much.
func TestP15_3HeldByChains(t *testing.T) {
	text := seven(16384) + "int f0(int n) { if (n) " + nested(9, "g()", "g()") + "; return n + 3; } "
	for i := range 55 {
		text += fmt.Sprintf("int f%d(int n) { if (n) %s; return f%d(n) + 1; } ", i+1, nested(9, "s1", "g()"), i)
	}
	soon(t, inMain(text, "return f55(0);"), "")
	const both = "int p(int n); int q(int n) { if (n < 0) X; return n ? p(n - 1) + 1 : 0; } int p(int n) { if (n < 0) X; return n ? q(n - 1) + 2 : 5; } int main(void) { if (!getchar()) X; return p(62) + (getchar() < 3 ? main() : 0); }"
	soon(t, seven(16384)+strings.ReplaceAll(both, "X", nested(10, "g()", "g()")), "\x01\x05")
	soon(t, seven(16384)+"int main(void) { int n = getchar(); if (!n) "+nested(20, "g()", "g()")+"; return n < 0 ? 4 : main() + 1; }", strings.Repeat("a", 63))
}

// TestP15_3HeldFew: a function that could hold too much holds few records, or small ones, on a way that is come to, at whatever depth, and through calls of itself.
func TestP15_3HeldFew(t *testing.T) {
	for size, calls := range map[int]int{1: 50, 3: 40, 4: 40, 100: 12, 257: 6, 800: 2, 1500: 1} {
		ahead := seven(size) + "struct L { char c[16384]; } l; struct L lg(void) { return l; } struct L lh(struct L a, struct L b, struct L c, struct L d, struct L e, struct L f, struct L i) { return a; } "
		large := strings.NewReplacer("g()", "lg()", "h(", "lh(").Replace(nested(12, "g()", "g()"))
		for _, when := range []int{0, 1, 30, 59} {
			for _, held := range []string{nested(calls, "g()", "g()"), nested(calls, "s1 = g()", "s1"), nested(calls, "(n ? g() : s2)", "*&s"), nested(1, "g()", nested(calls-1, "(n, g())", "(n < 99 ? g() : none())"))} {
				r := fmt.Sprintf("int r(int n) { int k = n; if (n < 0) %s; if (n == %d) out(of(%s)); k += n ? r(n - 1) : 0; out(hash); return k; } ", large, when, held)
				soon(t, inMain(ahead+r, "r(59); return hash;"), "")
			}
		}
		if calls >= 40 {
			r := fmt.Sprintf("struct S r(int n) { if (n < 0) %s; if (n) return h(g(), s, s1, g(), s2, (s1.c[0]++, s), r(n - 1)); return s3; } ", large)
			soon(t, inMain(ahead+r, "s1 = r(59); out(hash); return s1.c[0];"), "")
		}
	}
}

// TestP15_3HeldNothing: where functions end without the records that are asked for, a run may go far, in few steps, until it ends by something else.
func TestP15_3HeldNothing(t *testing.T) {
	const ahead = "struct T { char c[40]; } t = { { 5, 6 } }; struct T tg(int n) { t.c[n] += n; return t; } struct T th(struct T a, struct T b, struct T c) { add(a.c[1]); add(b.c[2]); add(c.c[3]); a.c[1] += b.c[3] + c.c[2]; return a; } struct S may(int n) { if (n) return s1; } "
	for _, size := range []int{16384, 9000, 2000} {
		for _, last := range []string{"(exit(of(g())), s)", "(exit(th(tg(1), tg(2), th(tg(3), t, tg(2))).c[1]), s)", "(1 / (n - 1), s)", "(out(th(tg(3), tg(1), th(t, th(t, tg(1), tg(2)), t)).c[1]), (exit(hash), s))"} {
			for _, held := range []string{nested(12, "none()", last), nested(70, "none()", last), nested(30, "may(n - 1)", last), nested(70, "(n ? none() : s)", last), nested(9, "(n ? (t, none()) : n < 7 ? s : g())", last), nested(30, "(t, none())", last), "h(g(), none(), (n ? none() : s), none(), none(), none(), " + nested(40, "none()", last) + ")", "h(none(), s1, none(), none(), none(), none(), " + nested(70, "none()", last) + ")",
				nested(5, "(n ? none() : g())", last), "th(t, tg(1), (" + nested(40, "none()", nested(3, "(th(tg(1), t, tg(2)).c[1] ? none() : s)", last)) + ", t))", "of(" + nested(11, "none()", "h(none(), none(), none(), none(), none(), none(), (th(tg(1), tg(1), t), "+last+"))") + ")"} {
				r := "int r(int n) { if (n > 1) r(n - 1); if (n == 1) " + held + "; if (n == -1) " + nested(12, "g()", "g()") + "; return 7; } "
				text := inMain(seven(size)+ahead+r, "return r(50);")
				if o := agrees(t, text, "", enough); o.Stop != api.StopExit && o.Stop != api.StopZero || o.Steps > freeSteps {
					t.Errorf("%s\nends by %d, after %d steps", tail(text), o.Stop, o.Steps)
				}
			}
		}
	}
}

// TestP15_3HeldNothingOften: likewise in a function that has room for all of it: what is not there is not copied.
func TestP15_3HeldNothingOften(t *testing.T) {
	for _, held := range []string{nested(4, "(n ? none() : s)", "(exit(3), s)"), nested(4, "(n ? (n, none()) : (s1 = s))", "(n ? (exit(3), s) : s)"), nested(4, "(n < 0 ? s : n ? none() : s1)", "(1 / (n - 1), s)")} {
		text := inMain(seven(16384), "int n = 1; "+held+"; return 7;")
		if o := agrees(t, text, "", enough); o.Stop != api.StopExit && o.Stop != api.StopZero || o.Steps > 1000 || isTight(t, text) {
			t.Errorf("%s\nends by %d, after %d steps", tail(text), o.Stop, o.Steps)
		}
	}
}

// TestP15_3HeldAll: as long as there are slots and blocks for all that is held, a run that is long ends as it should, too.
func TestP15_3HeldAll(t *testing.T) {
	const r = "int r(int n) { if (n) return r(n - 1); out(of(X)); return hash; } "
	for _, c := range []struct {
		size, calls, times int
	}{{16384, 8, -1}, {16384, 6, 59}, {8193, 10, 59}, {5000, 15, 59}, {10, 150, -1}, {1000, 100, 1}} {
		text := strings.ReplaceAll(r, "X", nested(c.calls, "g()", "g()"))
		call := fmt.Sprintf("return r(%d);", c.times)
		if c.times < 0 {
			text, call = "", "out(of("+nested(c.calls, "g()", "g()")+")); return hash;"
		}
		alike(t, inMain(seven(c.size)+text, call), "")
	}
}

// TestP15_3LeastRoom: within as many steps nothing is held for which there is no room, whatever sizes it has, and wherever it begins.
func TestP15_3LeastRoom(t *testing.T) {
	g := rand.New(rand.NewSource(15))
	for range 3000 {
		begins := g.Intn(api.MaxSize)
		s := spare{used: begins}
		first, second := 1+g.Intn(api.MaxSize), 1+g.Intn(1+g.Intn(api.MaxSize))
		for steps := 0; ; {
			size := []int{first, second, 1 + g.Intn(first)}[g.Intn(3)]
			if steps += size + 2; steps > freeSteps {
				break
			}
			if at := s.take(size); at+size-leastRoom*api.MaxSize > begins {
				t.Fatalf("no room for %d bytes, of records of %d and %d, after %d steps", size, first, second, steps)
			}
		}
	}
	if sureRoom < leastRoom || api.MaxGlobals+api.MaxLive+api.MaxCalls*sureRoom > api.MaxBlocks || 64*(freeSteps+1)+65536 <= api.MaxFuel {
		t.Errorf("%d, %d, %d", leastRoom, sureRoom, freeSteps)
	}
}

// TestP15_3Rooms: all blocks that there are go to the calls that may go on.
func TestP15_3Rooms(t *testing.T) {
	const ahead = "typedef struct { char c[16384]; } T; T s; T g(void) { return s; } T h(T a, T b, T c, T d, T e, T f, T i) { return a; } "
	for _, c := range []struct {
		globals, calls int
		locals         string
		room           int
	}{{0, 20, "", 64}, {1, 20, "", 63}, {63, 20, "", 63}, {64, 20, "", 62}, {126, 20, "", 62}, {127, 20, "", 61}, {255, 20, "", 59}, {10, 20, many(30, "int v# = n; "), 63}, {10, 20, many(40, "T v#; v#.c[0] = n; "), 32}, {31, 20, many(40, "T v#; v#.c[0] = n; "), 32}, {32, 20, many(40, "T v#; v#.c[0] = n; "), 31}, {255, 20, many(250, "T v#; ") + "char v[16384]; v[n % 8] = n; ", 58}, {0, 10, "", 0}} {
		text := ahead + many(c.globals, "int x#; ") + "int r(int n) { " + c.locals + "if (n) return r(n - 1); if (n) " + nested(c.calls, "g()", "s") + "; return 7; } int main(void) { return r(62); }"
		p := programOf(t, text)
		rooms := roomsFor(&p, written(newGauge(p.Types), &p, nil))
		if c.room == 0 && rooms != nil || c.room > 0 && (rooms == nil || rooms[2] != c.room) {
			t.Errorf("%d globals, %.20s: %v, want %d", c.globals, c.locals, rooms, c.room)
		}
		want, _ := model.Run(p, nil, enough)
		if o, _ := tacrun.Run(codeOf(t, text), nil, limit(want.Steps)); want.Stop != api.StopDeep && (o.Stop != api.StopExit || o.Code != 7) {
			t.Errorf("%d globals, %.20s: %v", c.globals, c.locals, o)
		}
	}
}

// TestP15_3PackedSlots: slots that share one lie apart in it, as they must be aligned; few are few.
func TestP15_3PackedSlots(t *testing.T) {
	g := rand.New(rand.NewSource(16))
	for range 300 {
		var slots []api.Slot
		var named []bool
		for range g.Intn(40) {
			size := []int{1 + g.Intn(9), 8188 + g.Intn(7), 16373 + g.Intn(12), 1 + g.Intn(api.MaxSize)}[g.Intn(4)]
			slots = append(slots, api.Slot{Size: size, Align: 1 << g.Intn(3)})
			named = append(named, g.Intn(4) > 0)
		}
		few, places := packed(slots, named)
		taken := make([][api.MaxSize]bool, len(few))
		for i, s := range slots {
			at := places[i]
			if named[i] && (few[at.n].Align < s.Align || at.off%s.Align != 0 || at.off+s.Size > few[at.n].Size || few[at.n].Size > api.MaxSize) {
				t.Fatalf("%v in %v at %v", s, few, at)
			}
			for off := at.off; named[i] && off < at.off+s.Size; off++ {
				if taken[at.n][off] {
					t.Fatalf("%v lies across another one in %v", s, few)
				}
				taken[at.n][off] = true
			}
		}
	}
	all := []api.Slot{{Size: 8192, Align: 4}, {Size: 16384, Align: 4}, {Size: 8000, Align: 1}, {Size: 16383, Align: 1}, {Size: 191, Align: 1}, {Size: 1, Align: 1}, {Size: 1, Align: 1}}
	if few, _ := packed(all, slices.Repeat([]bool{true}, len(all))); len(few) != 3 {
		t.Errorf("%v in %v", all, few)
	}
}

// TestP15_1Slots: texts of up to 1000 tokens have code, even if they have many large locals, and could hold many large records.
func TestP15_1Slots(t *testing.T) {
	const held = "typedef struct { char c[#]; } T; T s, g0, g1, g2, g3, g4, g5; T g(void) { return s; } T h(T a, T b, T c, T d, T e, T f, T i) { return a; } int main(void) { "
	for _, c := range []struct {
		size int
		body string
		code int
	}{
		{16384, "if (getchar() > 0) " + strings.Repeat("h(g0, g1, g2, g3, g4, g5, ", 58) + "s" + strings.Repeat(")", 58) + "; return 7;", 7},
		{16384, "if (getchar() > 0) " + nested(31, "g()", "s") + "; return 8;", 8},
		{16384, "T " + many(255, "v#, ") + "v; v.c[9] = 4; v = h(g(), v, v, g(), g(), v, g()); return v.c[9];", 0},
		{16384, "T " + many(245, "v#, ") + "v; if (getchar() > 0) " + nested(12, "g()", "v") + "; v.c[3] = 6; return h(v, g(), v, g(), v, g(), g()).c[3];", 6},
		{9000, "T " + many(249, "v#, ") + "v; v1.c[7] = 4; v248 = g(); return v1.c[7] + h(g(), v, s, v1, g(), v248, g()).c[2];", 4},
		{8193, "T " + many(195, "v#, ") + "v; if (getchar() < 9) return 4; " + many(195, "v# = ") + nested(5, "v", "g()") + "; return 5;", 4},
		{8193, "T " + many(199, "v#, ") + "v; if (getchar() < 9) return 4; " + many(199, "v# = ") + nested(3, "v", "g()") + "; return 5;", 4},
		{5000, "T " + many(199, "v#, ") + "v; if (getchar() < 9) return 4; " + many(199, "v# = ") + nested(3, "v", "g()") + "; return 5;", 4},
	} {
		text := strings.ReplaceAll(held, "#", fmt.Sprint(c.size)) + c.body + " }"
		if n := tokensOf(t, text); n > 1000 {
			t.Errorf("%s\nhas %d tokens", tail(text), n)
		}
		runs(t, exits(text, c.code))
	}
}

// TestP15_1NoSlots: a text that names more large locals than a function has slots has no code.
func TestP15_1NoSlots(t *testing.T) {
	for _, n := range []int{240, 243, 244, 256} {
		text := inMain(seven(16384), "struct S "+strings.TrimSuffix(many(n, "v#, "), ", ")+"; if (getchar() < 9) return 4; "+many(n, "v#.c[1] = 3; ")+nested(9, "g()", "g()")+"; return 4;")
		if n+leastRoom <= api.MaxSlots {
			runs(t, exits(text, 4))
		} else {
			faulty(t, text, api.Fault{Code: api.ErrLower})
		}
	}
}

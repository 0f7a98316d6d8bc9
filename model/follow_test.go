package model

import (
	"bytes"
	"slices"
	"testing"

	"mortise/api"
)

// mustRun is the outcome of a run that is not refused.
func mustRun(t *testing.T, p api.Prog, input []byte, fuel int) api.Outcome {
	t.Helper()
	o, err := Run(p, input, fuel)
	if err != api.OK {
		t.Fatalf("by %d: error %d", fuel, err)
	}
	if o.Steps > fuel || o.Steps < 0 || o.Stop != api.StopExit && o.Code != 0 || o.Stop < api.StopExit || o.Stop > api.StopDeep || o.Stop == api.StopFuel && o.Steps != fuel {
		t.Fatalf("by %d: %v", fuel, o)
	}
	return o
}

// TestP12_4Fuel: with more fuel a run that ended is the same; with less it ends by StopFuel, or the same, and what it put out is a beginning.
func TestP12_4Fuel(t *testing.T) {
	ended, cut := 0, 0
	eachGrown(41, 250, func(g *grower, text string, input []byte) {
		p := programOf(t, text)
		whole := mustRun(t, p, input, grownFuel)
		if whole.Stop != api.StopFuel {
			ended++
			for _, more := range []int{grownFuel + 1, 2 * grownFuel, api.MaxFuel, whole.Steps, max(whole.Steps, 1)} {
				if o := mustRun(t, p, input, more); !same(o, whole) {
					t.Fatalf("%s\nby %d: %v, by %d: %v", text, grownFuel, whole, more, o)
				}
			}
		}
		for range 8 {
			less := 1 + g.Intn(grownFuel)
			o := mustRun(t, p, input, less)
			if o.Stop != api.StopFuel && !same(o, whole) || o.Stop == api.StopFuel && whole.Stop != api.StopFuel && less >= whole.Steps || !bytes.HasPrefix(whole.Out, o.Out) {
				t.Fatalf("%s\nby %d: %v, by %d: %v", text, grownFuel, whole, less, o)
			}
			if o.Stop == api.StopFuel {
				cut++
			}
		}
	})
	if ended < 100 || cut < 100 {
		t.Errorf("only %d runs end, and %d are cut off", ended, cut)
	}
}

// TestP12_4EachFuel: of a run with loops, calls, structs and bit-fields at each fuel.
func TestP12_4EachFuel(t *testing.T) {
	const text = "struct S { int a : 5; char c[3]; struct S *p; } s = { 3, \"ab\", &s }; struct S up(struct S x, int n) { putchar('a' + n); x.a++; return n ? up(x, n - 1) : x; } int main(void) { int i; for (i = 0; i < 2; i++) { struct S t = up(s, i); putchar('0' + t.a); if (t.p->a != 3) continue; *t.p = (struct S) { .a = t.a, .p = t.p }; } return s.a; }"
	p := programOf(t, text)
	whole := mustRun(t, p, nil, enough)
	if whole.Stop != api.StopExit || whole.Code != 4 || string(whole.Out) != "a4ba6" {
		t.Fatalf("%v %q", whole, whole.Out)
	}
	shown := 0
	for fuel := 1; fuel < whole.Steps; fuel++ {
		o := mustRun(t, p, nil, fuel)
		if o.Stop != api.StopFuel || !bytes.HasPrefix(whole.Out, o.Out) || len(o.Out) < shown {
			t.Fatalf("by %d: %v, behind %d bytes", fuel, o, shown)
		}
		shown = len(o.Out)
		if want := tell(p, nil, fuel); !same(o, want) {
			t.Fatalf("by %d: %v, want %v", fuel, o, want)
		}
	}
}

// TestP12_4Input: what is not read of the input does not matter.
func TestP12_4Input(t *testing.T) {
	asked := 0
	eachGrown(42, 250, func(g *grower, text string, input []byte) {
		p := programOf(t, text)
		w := newTeller(p, input, grownFuel)
		w.all()
		read := w.visited[api.TxGet]
		if read > len(input) {
			return
		}
		asked += min(read, 1)
		whole := mustRun(t, p, input, grownFuel)
		other := append(slices.Clone(input[:read]), "other"...)
		for _, in := range [][]byte{input[:read], other, append(slices.Clone(input), 1, 2, 3)} {
			if o := mustRun(t, p, in, grownFuel); !same(o, whole) {
				t.Fatalf("%s\non %v: %v, on %v: %v", text, input, whole, in, o)
			}
		}
	})
	if asked < 20 {
		t.Errorf("only %d runs read their input, and not behind its end", asked)
	}
}

// TestP12_4Same: a program that was run is not changed, and runs the same again, whatever ran between; so does its text.
func TestP12_4Same(t *testing.T) {
	var progs []api.Prog
	var inputs [][]byte
	var outcomes []api.Outcome
	eachGrown(43, 120, func(g *grower, text string, input []byte) {
		p := programOf(t, text)
		before := slices.Clone(input)
		kept(t, p, func() { outcomes = append(outcomes, mustRun(t, p, input, grownFuel)) })
		if !bytes.Equal(before, input) {
			t.Errorf("the input was changed: %v, before %v", input, before)
		}
		if o := ran(t, text, string(input), grownFuel); !same(o, outcomes[len(outcomes)-1]) {
			t.Errorf("%s: Text answers %v, Run %v", text, o, outcomes[len(outcomes)-1])
		}
		progs, inputs = append(progs, p), append(inputs, input)
	})
	for i := len(progs) - 1; i >= 0; i-- {
		if o := mustRun(t, progs[i], inputs[i], grownFuel); !same(o, outcomes[i]) {
			t.Errorf("at first %v, then %v", outcomes[i], o)
		}
	}
}

// TestP12_4OwnMemory: what a run puts out is the caller's own.
func TestP12_4OwnMemory(t *testing.T) {
	p := programOf(t, "int main(void) { int c; while ((c = getchar()) >= 0) putchar(c); putchar('!'); return 0; }")
	input := []byte("abc")
	first := mustRun(t, p, input, enough)
	for i := range first.Out {
		first.Out[i] = '?'
	}
	first.Out = append(first.Out, "more"...)
	if string(input) != "abc" {
		t.Errorf("the input is %q", input)
	}
	if o := mustRun(t, p, input, enough); string(o.Out) != "abc!" {
		t.Errorf("then %q", o.Out)
	}
	room := append(make([]byte, 0, 64), "ab"...) // what room a list has behind its end is nobody's
	copy(room[2:64], "XYZ")
	if o := mustRun(t, p, room, enough); string(o.Out) != "ab!" || string(room[2:5]) != "XYZ" {
		t.Errorf("%q, and behind the input %q", o.Out, room[2:5])
	}
}

// TestP12_4NoList: nil and empty lists are the same.
func TestP12_4NoList(t *testing.T) {
	p := programOf(t, "int main(void) { return getchar(); }")
	q := copiedProg(p)
	q.Globals, q.Funcs[0].Locals = []api.Global{}, []int{}
	everyNode(&q.Funcs[0].Body, func(x *api.Tree) {
		if x.Sub == nil {
			x.Sub = []api.Tree{}
		}
	})
	for _, in := range [][]byte{nil, {}} {
		for _, prog := range []api.Prog{p, q} {
			if o := mustRun(t, prog, in, enough); !same(o, api.Outcome{Stop: api.StopExit, Code: -1, Steps: 3}) {
				t.Errorf("%v", o)
			}
		}
	}
}

package model

import (
	"reflect"
	"testing"

	"mortise/api"
	"mortise/check"
)

// enough is a fuel that reaches for the runs of most tests.
const enough = 100000

// sample is a text, and how its run ends.
type sample struct {
	text string
	stop api.Stop
	code int
	out  string
}

// exit is the sample of a text that exits.
func exit(text string, code int) sample { return sample{text: text, stop: api.StopExit, code: code} }

// puts is the sample of a text that puts something out, and exits with 0.
func puts(text, out string) sample { return sample{text: text, stop: api.StopExit, out: out} }

// undefined is the sample of a text that does what is undefined.
func undefined(text string) sample { return sample{text: text, stop: api.StopUndef} }

// inMain is a text in the block of main, behind a text of the unit's level.
func inMain(ahead, text string) string { return ahead + " int main(void) { " + text + " }" }

// programOf is the program of a text that must have one.
func programOf(t testing.TB, text string) api.Prog {
	t.Helper()
	p, f := check.Text(text)
	if f != (api.Fault{}) {
		t.Fatalf("fault %v at %.80q of %s", f, text[f.At.Off:], text)
	}
	return p
}

// ran is the outcome of a text that must have a program.
func ran(t testing.TB, text, input string, fuel int) api.Outcome {
	t.Helper()
	o, f := Text(text, []byte(input), fuel)
	if f != (api.Fault{}) {
		t.Fatalf("%.600s: fault %v", text, f)
	}
	return o
}

// same tells whether two outcomes are the same.
func same(a, b api.Outcome) bool {
	return a.Stop == b.Stop && a.Code == b.Code && string(a.Out) == string(b.Out) && a.Steps == b.Steps
}

// runs asks how texts' runs end, without input, and that the second telling of the chapter says the same at each fuel.
func runs(t *testing.T, list ...sample) {
	t.Helper()
	for _, s := range list {
		o := ran(t, s.text, "", enough)
		if o.Stop != s.stop || o.Code != s.code || string(o.Out) != s.out {
			t.Errorf("%.600s: stop %d, code %d, out %q, want %d, %d, %q", s.text, o.Stop, o.Code, o.Out, s.stop, s.code, s.out)
			continue
		}
		agrees(t, s.text, "", enough)
		for fuel := 1; fuel <= min(o.Steps+1, 60); fuel++ {
			agrees(t, s.text, "", fuel)
		}
	}
}

// agrees asks that a text's run is as the second telling says.
func agrees(t *testing.T, text, input string, fuel int) {
	t.Helper()
	p := programOf(t, text)
	got, err := Run(p, []byte(input), fuel)
	if want := tell(p, []byte(input), fuel); !same(got, want) || err != api.OK {
		t.Errorf("%.900s\non %q by %d: %d, %d, %q, %d steps (error %d), want %d, %d, %q, %d steps", text, input, fuel, got.Stop, got.Code, got.Out, got.Steps, err, want.Stop, want.Code, want.Out, want.Steps)
	}
}

// stepsOf is how many steps a text's run takes, which must exit.
func stepsOf(t testing.TB, text string) int {
	t.Helper()
	o := ran(t, text, "", enough)
	if o.Stop != api.StopExit {
		t.Fatalf("%.600s: %v", text, o)
	}
	return o.Steps
}

// everyNode hands on each node of a tree, by its address.
func everyNode(x *api.Tree, do func(x *api.Tree)) {
	do(x)
	for i := range x.Sub {
		everyNode(&x.Sub[i], do)
	}
}

// copied is a tree in new memory.
func copied(x api.Tree) api.Tree {
	l := x.Sub
	x.Sub = nil
	for _, sub := range l {
		x.Sub = append(x.Sub, copied(sub))
	}
	return x
}

// copiedProg is a program in new memory.
func copiedProg(p api.Prog) api.Prog {
	q := api.Prog{Main: p.Main}
	for _, row := range p.Types {
		row.Members = append([]api.Member(nil), row.Members...)
		q.Types = append(q.Types, row)
	}
	for _, g := range p.Globals {
		g.Data.Bytes = append([]byte(nil), g.Data.Bytes...)
		g.Data.Relocs = append([]api.Reloc(nil), g.Data.Relocs...)
		q.Globals = append(q.Globals, g)
	}
	for _, f := range p.Funcs {
		f.Locals = append([]int(nil), f.Locals...)
		f.Body = copied(f.Body)
		q.Funcs = append(q.Funcs, f)
	}
	return q
}

// kept asks that something that is done to a program does not change it.
func kept(t *testing.T, p api.Prog, do func()) {
	t.Helper()
	before := copiedProg(p)
	do()
	if !reflect.DeepEqual(copiedProg(p), before) {
		t.Error("the program was changed")
	}
}

package tacrun

import (
	"fmt"
	"reflect"
	"strings"
	"testing"

	"mortise/api"
	"mortise/tac"
)

// enough is a fuel that reaches for the runs of most tests.
const enough = 100000

// lined is a program's text whose lines are parted by a semicolon and a blank.
func lined(s string) string { return strings.ReplaceAll(s, "; ", "\n") + "\n" }

// inMain is the text of a program of a main alone, with nine temporaries, that gives; objects stand ahead of it.
func inMain(objects, code string) string {
	if objects != "" {
		objects += "; "
	}
	return lined(objects + "func main 0 9 gives; " + code + "; main 0")
}

// sample is a program's text, and how its run ends.
type sample struct {
	text string
	stop api.Stop
	code int
	out  string
}

// exits is the sample of a main that exits.
func exits(code string, with int) sample {
	return sample{text: inMain("", code), stop: api.StopExit, code: with}
}

// stops is the sample of a main that ends otherwise.
func stops(code string, stop api.Stop) sample { return sample{text: inMain("", code), stop: stop} }

// undefined is the sample of a main that does what is undefined.
func undefined(code string) sample { return stops(code, api.StopUndef) }

// programOf is the program of a text that must have one.
func programOf(t testing.TB, text string) api.TacProg {
	t.Helper()
	p, err := tac.Parse(text)
	if err != api.OK {
		t.Fatalf("error %d of\n%.900s", err, text)
	}
	return p
}

// ran is the outcome of a text that must have a program.
func ran(t testing.TB, text, input string, fuel int) api.Outcome {
	t.Helper()
	o, err := Text(text, []byte(input), fuel)
	if err != api.OK {
		t.Fatalf("error %d of\n%.900s", err, text)
	}
	return o
}

// same tells whether two outcomes are the same.
func same(a, b api.Outcome) bool {
	return a.Stop == b.Stop && a.Code == b.Code && string(a.Out) == string(b.Out) && a.Steps == b.Steps
}

// shown is an outcome as a test tells it.
func shown(o api.Outcome) string {
	return fmt.Sprintf("stop %d, code %d, out %.80q, %d steps", o.Stop, o.Code, o.Out, o.Steps)
}

// runs asks how programs' runs end, without input, and that the second telling of the chapter says the same at each fuel.
func runs(t *testing.T, list ...sample) {
	t.Helper()
	for _, s := range list {
		o := ran(t, s.text, "", enough)
		if o.Stop != s.stop || o.Code != s.code || string(o.Out) != s.out {
			t.Errorf("%.900s%s, want stop %d, code %d, out %q", s.text, shown(o), s.stop, s.code, s.out)
			continue
		}
		p := programOf(t, s.text)
		agrees(t, p, "", enough)
		for fuel := 1; fuel <= min(o.Steps+1, 80); fuel++ {
			agrees(t, p, "", fuel)
		}
	}
}

// agrees asks that a program's run is as the second telling says.
func agrees(t *testing.T, p api.TacProg, input string, fuel int) {
	t.Helper()
	got := mustRun(t, p, []byte(input), fuel)
	if want := tell(p, []byte(input), fuel); !same(got, want) {
		t.Fatalf("%.3000son %q by %d: %s; want %s", printed(p), input, fuel, shown(got), shown(want))
	}
}

// printed is a program's text.
func printed(p api.TacProg) string {
	s, _ := tac.Print(p)
	return s
}

// mustRun is the outcome of a run that is not refused, of which all holds that does of every outcome.
func mustRun(t testing.TB, p api.TacProg, input []byte, fuel int) api.Outcome {
	t.Helper()
	o, err := Run(p, input, fuel)
	if err != api.OK {
		t.Fatalf("by %d: error %d", fuel, err)
	}
	if o.Steps > fuel || o.Steps < 1 || o.Stop != api.StopExit && o.Code != 0 || o.Stop < api.StopExit || o.Stop > api.StopDeep || o.Stop == api.StopFuel && o.Steps != fuel || len(o.Out) > o.Steps {
		t.Fatalf("by %d: %s", fuel, shown(o))
	}
	return o
}

// copied is a program in new memory, whose empty lists are all nil.
func copied(p api.TacProg) api.TacProg {
	q := api.TacProg{Main: p.Main}
	for _, o := range p.Objects {
		o.Data.Bytes = append([]byte(nil), o.Data.Bytes...)
		o.Data.Relocs = append([]api.Reloc(nil), o.Data.Relocs...)
		q.Objects = append(q.Objects, o)
	}
	for _, f := range p.Funcs {
		f.Slots = append([]api.Slot(nil), f.Slots...)
		f.Code = append([]api.Ins(nil), f.Code...)
		for i, x := range f.Code {
			f.Code[i].Args = append([]api.Arg(nil), x.Args...)
		}
		q.Funcs = append(q.Funcs, f)
	}
	return q
}

// kept asks that something that is done with a program and an input changes neither.
func kept(t *testing.T, p api.TacProg, input []byte, do func()) {
	t.Helper()
	before, bytes := copied(p), string(input)
	do()
	if !reflect.DeepEqual(copied(p), before) || string(input) != bytes {
		t.Error("what was handed in was changed")
	}
}

package lower

import (
	"fmt"
	"testing"

	"mortise/api"
	"mortise/check"
	"mortise/layout"
	"mortise/model"
	"mortise/tac"
	"mortise/tacrun"
	"mortise/token"
)

// enough is a fuel that reaches for the runs of most tests on C's machine.
const enough = 1000000

// sample is a text, its input, and how its run ends.
type sample struct {
	text, input string
	stop        api.Stop
	code        int
	out         string
}

// exits is the sample of a text that exits.
func exits(text string, code int) sample { return sample{text: text, stop: api.StopExit, code: code} }

// puts is the sample of a text that puts something out, and exits with 0.
func puts(text, out string) sample { return sample{text: text, stop: api.StopExit, out: out} }

// inMain is a text in the block of main, behind a text of the unit's level.
func inMain(ahead, text string) string { return ahead + " int main(void) { " + text + " }" }

// bodies asks how the runs of texts in main's block, behind a text of the unit's level, end: by an exit with these codes.
func bodies(t *testing.T, ahead string, codes map[string]int) {
	t.Helper()
	for text, code := range codes {
		runs(t, exits(inMain(ahead, text), code))
	}
}

// programOf is the typed program of a text that must have one.
func programOf(t testing.TB, text string) api.Prog {
	t.Helper()
	p, f := check.Text(text)
	if f != (api.Fault{}) {
		t.Fatalf("fault %v at %.80q of %.2000s", f, text[min(f.At.Off, len(text)):], text)
	}
	return p
}

// codeOf is the code of a text that must have some, which must be as P15.1 and P15.2 say.
func codeOf(t testing.TB, text string) api.TacProg {
	t.Helper()
	p, f := Text(text)
	if f != (api.Fault{}) {
		t.Fatalf("fault %v of %.2000s", f, text)
	}
	if err := tac.Check(p); err != api.OK {
		t.Fatalf("layer 13 answers %d to the code of %.2000s", err, text)
	}
	if why := misshapen(p, programOf(t, text)); why != "" {
		t.Fatalf("%s: %.2000s", why, text)
	}
	return p
}

// limit is the fuel within which code must end whose program ended after so many steps.
func limit(steps int) int { return min(64*steps+65536, api.MaxFuel) }

// follows tells why code's run is not one that P15.3 takes for what C's machine said; "" is that it is one.
func follows(p api.TacProg, input []byte, want api.Outcome) string {
	ends := want.Stop == api.StopExit || want.Stop == api.StopZero
	fuel := limit(want.Steps)
	if !ends {
		fuel = want.Steps // that it ends is all that is asked
	}
	o, err := tacrun.Run(p, input, fuel)
	switch {
	case err != api.OK:
		return fmt.Sprintf("error %d", err)
	case !ends:
		return ""
	case o.Stop == api.StopFuel && 64*want.Steps+65536 > api.MaxFuel:
		return ""
	case o.Stop != want.Stop || o.Code != want.Code || string(o.Out) != string(want.Out):
		return fmt.Sprintf("stop %d, code %d, out %q, %d steps", o.Stop, o.Code, o.Out, o.Steps)
	}
	return ""
}

// agrees asks that a text's code runs as C's machine says, and answers what that says.
func agrees(t testing.TB, text, input string, fuel int) api.Outcome {
	t.Helper()
	want, err := model.Run(programOf(t, text), []byte(input), fuel)
	if err != api.OK {
		t.Fatalf("C's machine: error %d", err)
	}
	if why := follows(codeOf(t, text), []byte(input), want); why != "" {
		t.Errorf("%.3000s\non %q: %s, want stop %d, code %d, out %q", text, input, why, want.Stop, want.Code, want.Out)
	}
	return want
}

// runs asks how texts' runs end, those of their code and on C's machine.
func runs(t *testing.T, list ...sample) {
	t.Helper()
	for _, s := range list {
		o := agrees(t, s.text, s.input, enough)
		if o.Stop != s.stop || o.Code != s.code || string(o.Out) != s.out {
			t.Errorf("%.900s\non %q: stop %d, code %d, out %q, want %d, %d, %q", s.text, s.input, o.Stop, o.Code, o.Out, s.stop, s.code, s.out)
		}
	}
}

// shows asks that the run of a text's code exits, and that it puts out as much as the least that is told: texts that show what objects have would else show nothing.
func shows(t testing.TB, text, input string, least int) {
	t.Helper()
	if o := agrees(t, text, input, enough); o.Stop != api.StopExit || len(o.Out) < least {
		t.Fatalf("%.3000s\nends by %d, and puts out %d bytes", text, o.Stop, len(o.Out))
	}
}

// misshapen tells what of code is not as P15.2 says; "" is nothing.
func misshapen(p api.TacProg, from api.Prog) string {
	g := newGauge(from.Types)
	if len(p.Objects) != len(from.Globals) {
		return fmt.Sprintf("%d objects of %d globals", len(p.Objects), len(from.Globals))
	}
	for i, o := range p.Objects {
		size, _ := layout.Size(g.types, from.Globals[i].Type)
		align, _ := layout.Align(g.types, from.Globals[i].Type)
		want := api.TacObject{Name: fmt.Sprint("g", i), Size: size, Align: align, Data: from.Globals[i].Data}
		if fmt.Sprint(o) != fmt.Sprint(want) {
			return fmt.Sprintf("object %d is %.200v, want %.200v", i, o, want)
		}
	}
	if len(p.Funcs) < len(from.Funcs) || p.Main != from.Main {
		return fmt.Sprintf("%d functions of %d, main is %d, want %d", len(p.Funcs), len(from.Funcs), p.Main, from.Main)
	}
	for i, f := range from.Funcs {
		if why := misfunction(g, p.Funcs[i], f); why != "" {
			return fmt.Sprintf("function %d: %s", i, why)
		}
	}
	return ""
}

// misfunction tells what of one function is not so.
func misfunction(g *gauge, f api.TacFunc, from api.Func) string {
	scalars := true
	for _, id := range from.Locals[:from.Params] {
		scalars = scalars && g.types.Scalar(id)
	}
	switch {
	case f.Name != from.Name:
		return fmt.Sprintf("its name is %s, want %s", f.Name, from.Name)
	case g.types.Scalar(from.Result) && !f.Gives:
		return "it gives nothing"
	case from.Result == 0 && f.Gives:
		return "it gives something"
	case scalars && (g.types.Scalar(from.Result) || from.Result == 0) && f.Params != from.Params:
		return fmt.Sprintf("it has %d parameters, want %d", f.Params, from.Params)
	}
	return ""
}

// tokensOf is how many tokens a text has, the end not counted.
func tokensOf(t testing.TB, text string) int {
	t.Helper()
	l, f := token.Scan(text)
	if f != (api.Fault{}) {
		t.Fatalf("fault %v", f)
	}
	return len(l) - 1
}

package sroa

import (
	"bytes"
	"fmt"
	"slices"
	"strings"
	"testing"

	"mortise/api"
	"mortise/tac"
	"mortise/tacrun"
)

// tmp is the operand that is a temporary.
func tmp(n int) api.Arg { return api.Arg{Kind: api.ArgTemp, N: uint32(n)} }

// num is the operand that is a number.
func num(n uint32) api.Arg { return api.Arg{Kind: api.ArgConst, N: n} }

// lined is a text whose lines are parted by semicolons.
func lined(text string) string {
	s := ""
	for _, l := range strings.Split(text, ";") {
		s += strings.TrimSpace(l) + "\n"
	}
	return s
}

// program is the program of a text whose lines are parted by semicolons.
func program(t testing.TB, text string) api.TacProg {
	t.Helper()
	p, err := tac.Parse(lined(text))
	if err != api.OK {
		t.Fatalf("error %d of %s", err, text)
	}
	return p
}

// inMain is the text of a program whose only function has ten temporaries and these slots and instructions.
func inMain(text string) string { return "func main 0 10 gives;" + text + ";main 0" }

// inSecond is the text of a program whose function 0 has two parameters, ten temporaries and these slots and instructions; main calls it, and there is an object of eight bytes.
func inSecond(text string) string {
	return "object o 8 4;func f 2 10 gives;" + text + ";func main 0 1 gives;call t0 0 #3 #4;ret t0;main 1"
}

// splits is what Splits answers of a function.
func splits(t testing.TB, p api.TacProg, i int) []int {
	t.Helper()
	l, err := Splits(p, i)
	if err != api.OK {
		t.Fatalf("Splits of function %d: error %d of %s", i, err, shown(p))
	}
	return l
}

// ran is what Run answers of a program, which must be as P17.2 and P17.3 say, as far as can be seen without a run.
func ran(t testing.TB, p api.TacProg) api.TacProg {
	t.Helper()
	q, err := Run(p)
	if err != api.OK {
		t.Fatalf("Run: error %d of %s", err, shown(p))
	}
	if why := misshapen(p, q); why != "" {
		t.Fatalf("%s\nof %s\nbecomes %s", why, shown(p), shown(q))
	}
	return q
}

// misshapen tells what of an answer is not as P17.2 and P17.3 say; "" is nothing.
func misshapen(p, q api.TacProg) string {
	if err := tac.Check(q); err != api.OK {
		return fmt.Sprintf("layer 13 answers %d", err)
	}
	if fmt.Sprint(p.Objects) != fmt.Sprint(q.Objects) || p.Main != q.Main || len(p.Funcs) != len(q.Funcs) {
		return "other objects, functions or Main"
	}
	for i, f := range p.Funcs {
		g := q.Funcs[i]
		if f.Name != g.Name || f.Params != g.Params || f.Gives != g.Gives {
			return fmt.Sprintf("function %d has another name, Params or Gives", i)
		}
		ahead, _ := Splits(p, i)
		behind, err := Splits(q, i)
		if err != api.OK {
			return fmt.Sprintf("Splits of function %d of the answer: error %d", i, err)
		}
		for _, s := range ahead {
			if slices.ContainsFunc(g.Code, func(x api.Ins) bool { return x.Op == api.TacSlot && x.N == s }) {
				return fmt.Sprintf("slot %d of function %d is named", s, i)
			}
			if slices.Contains(behind, s) {
				return fmt.Sprintf("slot %d of function %d does not escape", s, i)
			}
		}
		if !slices.Equal(f.Slots, g.Slots) {
			return fmt.Sprintf("function %d has other slots", i)
		}
	}
	return ""
}

// limit is the fuel within which an answer must end, if the program ended after so many steps.
func limit(steps int) int { return min(4*steps+1000, api.MaxFuel) }

// follows tells why an answer does not run as P17.2 says that it does; "" is that it does. It answers how the program ran, too.
func follows(p, q api.TacProg, input []byte, fuel int) (api.Outcome, string) {
	want, err := tacrun.Run(p, input, fuel)
	if err != api.OK {
		return want, fmt.Sprintf("error %d of the program", err)
	}
	ends := want.Stop == api.StopExit || want.Stop == api.StopZero
	o, err := tacrun.Run(q, input, max(limit(want.Steps), 1))
	switch {
	case err != api.OK:
		return want, fmt.Sprintf("error %d", err)
	case !ends:
		return want, "" // that it ends is all that is asked
	case o.Stop == api.StopFuel && 4*want.Steps+1000 > api.MaxFuel:
		return want, ""
	case o.Stop != want.Stop || o.Code != want.Code || !bytes.Equal(o.Out, want.Out):
		return want, fmt.Sprintf("stop %d, code %d, out %v, %d steps, want %d, %d, %v", o.Stop, o.Code, o.Out, o.Steps, want.Stop, want.Code, want.Out)
	}
	return want, ""
}

// agrees asks that what Run answers of a program runs as the program does, and that Splits answers what the slow telling does.
func agrees(t testing.TB, p api.TacProg, input string, fuel int) api.Outcome {
	t.Helper()
	for i, f := range p.Funcs {
		if got, want := splits(t, p, i), toldSplits(f); !slices.Equal(got, want) {
			t.Fatalf("slots %v of function %d split, want %v: %s", got, i, want, shown(p))
		}
	}
	q := ran(t, p)
	want, why := follows(p, q, []byte(input), fuel)
	if why != "" {
		t.Fatalf("%s\non %q: %s\nof %s\nbecomes %s", why, input, why, shown(p), shown(q))
	}
	return want
}

// shown is a program as a test tells of it.
func shown(p api.TacProg) string {
	s, err := tac.Print(p)
	if err != api.OK {
		s = fmt.Sprint(p)
	}
	if len(s) > 4000 {
		return s[:4000] + ".."
	}
	return s
}

package lower

import (
	"fmt"
	"testing"

	"mortise/api"
	"mortise/model"
	"mortise/tacrun"
)

// TestP15_3Fuel: the code of each sort of statement, done many times, takes no more steps than it may.
func TestP15_3Fuel(t *testing.T) {
	const ahead = "struct B { int a : 1; int f : 30; unsigned g : 1; unsigned h : 31; } b, *p = &b; struct S { char c[3]; } s, *q = &s; struct L { char z[1000]; } l, *m = &l; int x, *r = &x; void none(void) { } int same(int n) { return n; } " +
		"struct S h(struct S a) { return a; } struct L big(struct L l, int n) { return l; } int f(struct S a, struct S b, int n) { return n; } "
	for _, statement := range []string{
		";", "x++;", "x = x * 3 + 1;", "b.f++;", "p->h += p->f;", "p->f = p->h = x;", "s = s;", "*q = *q;", "s = h(h(s));", "h(s);", "none();", "x = same(x);", "x = f(s, s = h(s), x);", "*m = *m;", "l = big(l, 1);", "big(l, (l.z[0]++, 2));", "*m = x ? *m : big(*m, 3);",
		"{ int y[100] = { 1 }; }", "{ int y[15] = { x }; }", "{ struct L y = l; }", "{ struct L y = { 1 }; }", "(struct B) { 1, x, 1, x };", "{ int y; y = 3; }", "{ char z[] = \"abcdefghijklmnopqrstuvwxyz\"; }", "if (x) ; else x--;", "x = !x;", "x = x && r || !r;", "x = (x ? x : *r) > 3;", "r = &x + 1 - 1;", "while (0) ;", "{ int y = 1; while (y) y--; }", "x, x, x;", "(void) x;", "*r;", "x = h(s).c[x & 1];",
	} {
		for _, times := range []int{1000, 3000} {
			text := inMain(ahead, fmt.Sprintf("int i; for (i = 0; i < %d; i++) %s return 0;", times, statement))
			want, _ := model.Run(programOf(t, text), nil, api.MaxFuel)
			if want.Stop == api.StopFuel {
				continue
			}
			if o, _ := tacrun.Run(codeOf(t, text), nil, limit(want.Steps)); want.Stop != api.StopExit || o.Stop != api.StopExit {
				t.Errorf("%s: %d steps, and code ends by %d after %d", statement, want.Steps, o.Stop, o.Steps)
			}
		}
	}
}

// TestP15_3FuelMost: of runs so long that their code may end by StopFuel it ends so, or as C's machine does.
func TestP15_3FuelMost(t *testing.T) {
	for _, times := range []int{10000, 100000, 300000} {
		text := inMain("int x;", fmt.Sprintf("int i; for (i = 0; i < %d; i++) { x += i; } putchar('z'); return x %% 100;", times))
		want, err := model.Run(programOf(t, text), nil, api.MaxFuel)
		if err != api.OK || want.Stop != api.StopExit && want.Stop != api.StopFuel {
			t.Fatalf("%v", want)
		}
		p := codeOf(t, text)
		if why := follows(p, nil, want); why != "" {
			t.Errorf("%d times: %s", times, why)
		}
		o, _ := tacrun.Run(p, nil, api.MaxFuel)
		if o.Stop != api.StopExit && o.Stop != api.StopFuel || o.Stop == api.StopFuel && len(o.Out) > 0 {
			t.Errorf("%d times: %v", times, o)
		}
	}
}

// TestP15_3Least: short runs have at least 65536 steps.
func TestP15_3Least(t *testing.T) {
	for _, text := range []string{inMain("", ""), inMain("", "return 1;"), inMain("", "exit(2);"), inMain("", "return 1 / 0;")} {
		want, _ := model.Run(programOf(t, text), nil, 100)
		if o, _ := tacrun.Run(codeOf(t, text), nil, 50); o.Stop != want.Stop || o.Code != want.Code {
			t.Errorf("%s: %v, want %v", text, o, want)
		}
	}
}

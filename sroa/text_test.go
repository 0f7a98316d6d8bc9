package sroa

import (
	"testing"

	"mortise/api"
	"mortise/lower"
	"mortise/model"
)

// TestP17_2Texts: the code of texts of C runs the same with its slots split, and some of them do.
func TestP17_2Texts(t *testing.T) {
	for _, c := range []struct {
		text, input string
		code        int
		out         string
		least       int // so many slots split
	}{
		{"int main(void) { int a = 3, b[2]; b[0] = a; b[1] = b[0] * 7; return b[1] + a; }", "", 24, "", 1},
		{"int main(void) { struct { char c; short s; unsigned char u; int i; } x; x.c = 200; x.s = 70000; x.u = 300; x.i = x.c + x.s + x.u; return x.i; }", "", 4452, "", 1},
		{"int main(void) { struct { int a : 3; unsigned b : 5; int c : 20; } x = { 2, 31, -7 }; x.a++; x.b += x.a; x.c -= x.b; return x.a * 1000 + x.b * 10 + x.c; }", "", 3011, "", 0},
		{"int main(void) { int i, s = 0; for (i = 0; i < 10; i++) { char c = i * 50; s += c; } return s; }", "", -54, "", 1},
		{"int f(int n) { int a[1]; a[0] = n; if (n > 1) a[0] = n * f(n - 1); return a[0]; } int main(void) { return f(6); }", "", 720, "", 1},
		{"int main(void) { int c; unsigned char b; while ((c = getchar()) >= 0) { b = c + 1; putchar(b); } return 0; }", "HAL\xff", 0, "IBM\x00", 1},
		{"struct P { int x, y; }; struct P f(struct P p) { p.x += p.y; return p; } int main(void) { struct P a = { 1, 2 }, *q; a = f(a); q = &a; return q->x * 10 + a.y; }", "", 32, "", 0},
		{"int main(void) { int x = 5, *p = &x, **q = &p; **q = 8; return x / (*p - 8); }", "", 0, "", 0},
	} {
		prog, f := lower.Text(c.text)
		if f != (api.Fault{}) {
			t.Fatalf("%v of %s", f, c.text)
		}
		want, _ := model.Text(c.text, []byte(c.input), 10000)
		o := agrees(t, prog, c.input, api.MaxFuel)
		if o.Stop != want.Stop || o.Code != c.code || string(o.Out) != c.out {
			t.Errorf("%s: stop %d, code %d, out %q, want %d, %d, %q", c.text, o.Stop, o.Code, o.Out, want.Stop, c.code, c.out)
		}
		n := 0
		for i := range prog.Funcs {
			n += len(splits(t, prog, i))
		}
		if n < c.least {
			t.Errorf("%s: only %d slots split", c.text, n)
		}
	}
}

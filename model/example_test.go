package model

import (
	"testing"

	"mortise/api"
)

// TestP12_1Examples: the chapter's own.
func TestP12_1Examples(t *testing.T) {
	runs(t,
		sample{"int main(void) { int i; for (i = 0; i < 3; i++) putchar('a' + i); return i; }", api.StopExit, 3, "abc"},
		undefined("int main(void) { int x; return x; }"),
		sample{"int main(void) { return 1 / (getchar() + 1); }", api.StopZero, 0, ""},
		undefined("int a[2]; int main(void) { return *(a + 2); }"),
		sample{"int f(void) { return f(); } int main(void) { return f(); }", api.StopDeep, 0, ""},
		sample{"int main(void) { for (;;) ; }", api.StopFuel, 0, ""},
		exit("struct { int a : 3; unsigned b : 5; } s; int main(void) { s.a = 5; s.b = 33; return s.a * 10 + s.b; }", -29),
	)
	if o := ran(t, "int main(void) { putchar(getchar()); return 3; }", "A", 100000); !same(o, api.Outcome{Stop: api.StopExit, Code: 3, Out: []byte("A"), Steps: 6}) { // chapter 28's
		t.Errorf("%v", o)
	}
}

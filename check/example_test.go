package check

import (
	"testing"

	"mortise/api"
)

// TestP10_1Examples: the chapter's examples.
func TestP10_1Examples(t *testing.T) {
	w := checked(t, `int main(void) { return 1 + 'a' * 2L; }`)
	if got := w.show(w.Funcs[0].Body); got != `Block(Return(Conv(Bin:add<long>(Conv<long>(1) Bin:mul<long>(Conv<long>(97) 2<long>)))))` {
		t.Error(got)
	}
	p, f := Text(`int x; int *p = &x + 1; int main(void) { return 0; }`)
	if f != (api.Fault{}) || len(p.Globals) != 2 || len(p.Globals[1].Data.Relocs) != 1 || p.Globals[1].Data.Relocs[0] != (api.Reloc{Off: 0, Global: 0, Add: 4}) {
		t.Error(p.Globals, f)
	}
	faults(t, api.ErrName, `int main(void) { int x; x = @y; }`)
	faults(t, api.ErrDeclare, `int @f(void); int main(void) { return 0; }`)
	faults(t, api.ErrMain, `int main(int a) { }`)
	w = checked(t, `struct S { int a : 3; unsigned b : 5; } s; int main(void) { return s.b - 6; }`)
	if got := w.show(w.Funcs[0].Body); got != `Block(Return(Bin:sub(Conv(Read(Part.0:3+5<unsigned int>(s<struct S>))) 6)))` {
		t.Error(got)
	}
	if n := w.Funcs[0].Body.Sub[0].Sub[0].Sub[0].Sub[0].Sub[0].Num; n != 197 {
		t.Error(n)
	}
}

// TestP10_2Examples: the chapter's example.
func TestP10_2Examples(t *testing.T) {
	if got := typeOf(t, "struct S { char c; int i; };", "struct S [2]"); got != "struct S [2], 16" {
		t.Error(got)
	}
}

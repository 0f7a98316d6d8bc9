package lower

import (
	"fmt"
	"reflect"
	"slices"
	"strings"
	"testing"

	"mortise/api"
	"mortise/tac"
	"mortise/tacrun"
)

// TestP15_2Objects: each global is an object: those with names, static ones of blocks, literals and strings.
func TestP15_2Objects(t *testing.T) {
	p := codeOf(t, "char c = 7; struct S { char a; short b; } s = { 1, 0x0203 }, t[3]; char z[3] = \"ab\"; int x, *q = &x, *r = (int[]) { 5, 6 } + 1; "+
		"char *w = \"hi\"; struct { char *u; int f : 5; } m = { z + 2, -1 }; union { char c[5]; } n; int main(void) { static short k = -2; return \"x\"[0] + k; }")
	for i, want := range []api.TacObject{
		{Size: 1, Align: 1, Data: api.Data{Bytes: []byte{7}}},
		{Size: 4, Align: 2, Data: api.Data{Bytes: []byte{1, 0, 3, 2}}},
		{Size: 12, Align: 2, Data: api.Data{Bytes: make([]byte, 12)}},
		{Size: 3, Align: 1, Data: api.Data{Bytes: []byte("ab\x00")}},
		{Size: 4, Align: 4, Data: api.Data{Bytes: make([]byte, 4)}},
		{Size: 4, Align: 4, Data: api.Data{Bytes: make([]byte, 4), Relocs: []api.Reloc{{Global: 4}}}},
		{Size: 4, Align: 4, Data: api.Data{Bytes: make([]byte, 4), Relocs: []api.Reloc{{Global: 7, Add: 4}}}},
		{Size: 8, Align: 4, Data: api.Data{Bytes: []byte{5, 0, 0, 0, 6, 0, 0, 0}}},
		{Size: 4, Align: 4, Data: api.Data{Bytes: make([]byte, 4), Relocs: []api.Reloc{{Global: 9}}}},
		{Size: 3, Align: 1, Data: api.Data{Bytes: []byte("hi\x00")}},
		{Size: 8, Align: 4, Data: api.Data{Bytes: []byte{0, 0, 0, 0, 31, 0, 0, 0}, Relocs: []api.Reloc{{Global: 3, Add: 2}}}},
		{Size: 5, Align: 1, Data: api.Data{Bytes: make([]byte, 5)}},
		{Size: 2, Align: 2, Data: api.Data{Bytes: []byte{254, 255}}},
		{Size: 2, Align: 1, Data: api.Data{Bytes: []byte("x\x00")}},
	} {
		want.Name = fmt.Sprint("g", i)
		if i >= len(p.Objects) || fmt.Sprint(p.Objects[i]) != fmt.Sprint(want) {
			t.Fatalf("object %d of %v, want %v", i, p.Objects, want)
		}
	}
	if len(p.Objects) != 14 {
		t.Errorf("%d objects", len(p.Objects))
	}
}

// TestP15_2Many: as many globals and functions as a program may have; and none.
func TestP15_2Many(t *testing.T) {
	var globals, functions strings.Builder
	for i := range api.MaxGlobals {
		fmt.Fprintf(&globals, "int x%d = %d; ", i, i)
	}
	for i := range api.MaxFuncs - 1 {
		fmt.Fprintf(&functions, "int f%d(void) { return x%d; } ", i, 4*i)
	}
	text := inMain(globals.String()+functions.String(), "return f62() + x255;")
	runs(t, exits(text, 248+255))
	if p := codeOf(t, text); len(p.Objects) != api.MaxGlobals || p.Main != api.MaxFuncs-1 {
		t.Errorf("%d objects, main is %d", len(p.Objects), p.Main)
	}
	if p := codeOf(t, inMain("", "")); len(p.Objects) != 0 || p.Main != 0 || p.Funcs[0].Name != "main" || p.Funcs[0].Params != 0 || !p.Funcs[0].Gives {
		t.Errorf("%v", p)
	}
}

// TestP15_2Functions: functions stand in the order in which they were declared first, with their names, whatever these are.
func TestP15_2Functions(t *testing.T) {
	long := strings.Repeat("f", api.MaxName)
	p := codeOf(t, "int main(void); void v(int a); int *pt(char a, short b); struct S { int x; }; struct S r(void) { struct S s = { 1 }; return s; } int "+long+"(struct S s, int n) { return n; } "+
		"int putchar(int c) { return c; } void v(int a) { } _Bool g0(void) { return 3; } int main(void) { v(1); return g0(); } int *pt(char a, short b) { return 0; }")
	names := []string{"main", "v", "pt", "r", long, "putchar", "g0"}
	gives := map[string]bool{"main": true, "pt": true, long: true, "putchar": true, "g0": true}
	params := map[string]int{"v": 1, "pt": 2, "putchar": 1}
	for i, name := range names {
		f := p.Funcs[i]
		if f.Name != name || gives[name] && !f.Gives || params[name] > 0 && f.Params != params[name] {
			t.Errorf("function %d is %s with %d parameters, gives: %v; want %s", i, f.Name, f.Params, f.Gives, name)
		}
	}
	if p.Main != 0 {
		t.Errorf("main is %d", p.Main)
	}
	runs(t, exits("int getchar(void) { return 5; } int exit(int n) { return n; } int main(void) { return getchar() + exit(4); }", 9))
}

// handed is a program whose main hands arguments to function number n, which are numbers or, below 0, addresses of objects from the last one on, and exits with what that gives.
func handed(p api.TacProg, n int, args ...int) api.TacProg {
	f := api.TacFunc{Name: "#1", Temps: 1 + len(args), Gives: true}
	call := api.Ins{Op: api.TacCall, N: n}
	for i, a := range args {
		if a >= 0 {
			call.Args = append(call.Args, number(uint32(a)))
			continue
		}
		f.Code = append(f.Code, api.Ins{Op: api.TacGlobal, D: 1 + i, N: len(p.Objects) + a})
		call.Args = append(call.Args, temporary(1+i))
	}
	f.Code = append(f.Code, call, api.Ins{Op: api.TacRet, D: -1, A: temporary(0)})
	p.Funcs = append(slices.Clone(p.Funcs), f)
	p.Main = len(p.Funcs) - 1
	return p
}

// TestP15_2Parameters: a function's scalar parameters are its temporaries, in order, and it gives its result.
func TestP15_2Parameters(t *testing.T) {
	for _, c := range []struct {
		function string
		args     []int
		want     int
	}{
		{"int f(void) { return 7; }", nil, 7},
		{"int f(int a, int b, int c, int d, int e, int g, int h) { return a + b * 2 + c * 4 + d * 8 + e * 16 + g * 32 + h * 64; }", []int{1, 0, 1, 1, 0, 0, 1}, 77},
		{"int f(char a, unsigned short b, _Bool c, long d) { return a * 1000 + b * 100 + c * 10 + d; }", []int{3, 65, 1, 4}, 3000 + 6500 + 10 + 4},
		{"int f(int *p, char *q, int n) { p[n] = q[n] + n; return x[1] * 100 + *q; }", []int{-2, -1, 1}, ('b'+1)*100 + 'a'},
		{"enum E { A, B } f(enum E e) { return e + 1; }", []int{8}, 9},
		{"struct S { int a, b; }; int f(int n) { struct S s = { n, 5 }; return s.a * s.b; }", []int{6}, 30},
	} {
		p := codeOf(t, inMain("int x[4]; char z[3] = \"ab\";"+c.function, "return 0;"))
		q := handed(p, 0, c.args...)
		if err := tac.Check(q); err != api.OK {
			t.Fatalf("error %d", err)
		}
		if o, _ := tacrun.Run(q, nil, 1000); o.Stop != api.StopExit || o.Code != c.want {
			t.Errorf("%s of %v: %v, want %d", c.function, c.args, o, c.want)
		}
	}
}

// TestP15_2Results: a function of each scalar type gives.
func TestP15_2Results(t *testing.T) {
	for _, kind := range append(kinds(), "int *", "char **", "void *", "struct S *", "int (*") {
		text := "enum E { A = -1, B = 300 }; struct S; " + kind + " f(void) { return 0; }"
		if kind == "int (*" {
			text = "int (*f(void))[3] { return 0; }"
		}
		if p := codeOf(t, inMain(text, "return f() ? 1 : 2;")); !p.Funcs[0].Gives || p.Funcs[0].Params != 0 {
			t.Errorf("%s: gives %v, %d parameters", text, p.Funcs[0].Gives, p.Funcs[0].Params)
		}
	}
}

// eachList goes through the lists of a value that have room.
func eachList(v reflect.Value, do func(list reflect.Value)) {
	switch v.Kind() {
	case reflect.Struct:
		for i := range v.NumField() {
			eachList(v.Field(i), do)
		}
	case reflect.Slice:
		if v.Cap() > 0 {
			do(v)
		}
		for i := range v.Len() {
			eachList(v.Index(i), do)
		}
	}
}

// TestP15_1OwnMemory: what is answered is the caller's own: lists share nothing, and what is done to them turns no other answer.
func TestP15_1OwnMemory(t *testing.T) {
	eachGrown(16, 20, func(g *grower, text string, _ []byte) {
		first, second := codeOf(t, text), codeOf(t, text)
		if !reflect.DeepEqual(first, second) {
			t.Fatalf("two answers to %s", text)
		}
		type span struct{ from, to uintptr }
		var spans []span
		eachList(reflect.ValueOf(&first).Elem(), func(l reflect.Value) {
			spans = append(spans, span{l.Pointer(), l.Pointer() + uintptr(l.Cap())*l.Type().Elem().Size()})
		})
		slices.SortFunc(spans, func(a, b span) int { return int(a.from) - int(b.from) })
		for i := 1; i < len(spans); i++ {
			if spans[i].from < spans[i-1].to {
				t.Fatalf("two lists share memory")
			}
		}
		eachList(reflect.ValueOf(&first).Elem(), func(l reflect.Value) {
			l.Slice(0, l.Cap()).Clear()
		})
		if third := codeOf(t, text); !reflect.DeepEqual(second, third) {
			t.Fatalf("another answer to %s", text)
		}
	})
}

package check

import (
	"testing"

	"mortise/api"
	"mortise/parse"
	"mortise/token"
)

// faulty are pieces of a unit with one fault each, at their mark.
func faulty() map[string]api.Errno {
	return map[string]api.Errno{
		`int a% = @y;`: api.ErrName, `int b%; int @b%;`: api.ErrTwice, `int c%(void) { 1 @= 2; }`: api.ErrLvalue, `int d%(void) { return @*1; }`: api.ErrOperand, `int e%(void) { @putchar(); }`: api.ErrCall, `int f%; int @g% = f%;`: api.ErrConst, `int h%(void) { @break; }`: api.ErrLoop, `void i%(void) { @return 1; }`: api.ErrReturn, `int @j%[0];`: api.ErrDeclare, `int k%(int a, int b, int c, int d, int e, int f, int g, int @h);`: api.ErrTooLarge,
		`void @l%;`: api.ErrIncomplete, `int @m%[5000];`: api.ErrLarge, `struct { int @n : 33; } o%;`: api.ErrBits, `int @p% = "a";`: api.ErrInit, `enum { q% = 1 @/ 0 };`: api.ErrZero, `@struct { int a, a; } r%;`: api.ErrTag, `int s% = @offsetof(int, a);`: api.ErrType, `@struct T% { struct T% { int a; } b; };`: api.ErrDone,
	}
}

// numbered is a piece with its % replaced.
func numbered(piece, n string) string {
	var out []byte
	for i := range len(piece) {
		if piece[i] == '%' {
			out = append(out, n...)
		} else {
			out = append(out, piece[i])
		}
	}
	return string(out)
}

// TestP10_1First: of two faults in one text the first is told, whatever stands behind it, and whatever stands ahead of it.
func TestP10_1First(t *testing.T) {
	for first, code := range faulty() {
		unitFaults(t, code, numbered(first, "1"))
		for second := range faulty() {
			text, at := unmark(t, numbered(first, "1"))
			behind, _ := unmark(t, numbered(second, "2"))
			refuses(t, mainless(text+"\n"+behind), api.Fault{Code: code, At: at})
			refuses(t, text+" "+behind, api.Fault{Code: code, At: at})
		}
		text, at := unmark(t, mainless("int x; struct S { int a; } s;\n\n\tint f(void) { return s.a; } "+numbered(first, "3")))
		refuses(t, text, api.Fault{Code: code, At: at})
		if at.Line != 3 {
			t.Errorf("%q: line %d", text, at.Line)
		}
	}
}

// TestP10_1Parts: parts are gone through ahead of what they are parts of, as the text stands.
func TestP10_1Parts(t *testing.T) {
	mainFaults(t, api.ErrName,
		`@x + y;`, `@x + s + 1;`, `s + (@x + 1);`, `1 = @x;`, `@x = y;`, `s += @x;`, `f(@x);`, `nothing(@x);`, `i(@x, y);`, `f(p, @x);`, `s ? @x : y;`, `s && @x;`, `*(int *)@x;`, `(struct S)@x;`, `s[@x];`, `@x[y];`, `1[@x];`, `(@x).y;`, `(@x)->y;`, `(@x)++;`, `sizeof (@x).y;`, `&(@x + 1);`, `!(s + @x);`, `return @x;`, `(char[@x])y;`, `(int[]){ [0] = @x, y };`, `offsetof(struct S, v[@x]);`, `1 = 2 + @x;`,
	)
	mainFaults(t, api.ErrConst, `int x[] = { [@i] = y };`, `(char[@i])x;`, `struct { int a[@i]; int b : x; } y;`, `int x[@i] = { y };`, `enum { X = @i, Y = x };`, `int x[i] [@j];`, `offsetof(struct Unknown, a[@i]);`)
	mainFaults(t, api.ErrOperand, `if (@*i) x;`, `@if (s) x;`, `@while (s) x;`, `@for (; s; x) y;`, `i = 1, @!s, x;`, `(s @+ 1) + x;`)
	unitFaults(t, api.ErrName, `void f(void) { return @x; }`, `@enum E f(void) { x; }`, `int f(@enum E a, int a);`, `struct S { @enum E e; int a : 33; } x;`, `int a[sizeof(@enum E)], a;`, `int x = { @y, z };`)
	unitFaults(t, api.ErrTwice, `int x; int @x = y;`, `int x; struct { int a; } @x = { y };`, `int f(int a, int @a, int b[0]) { x; }`)
	unitFaults(t, api.ErrInit, `int @x = "a", x;`)
	unitFaults(t, api.ErrDeclare, `int @x[0], y = z;`, `struct O @f(int a, int a) { x; }`, `int f(int @a[0], int a);`)
	unitFaults(t, api.ErrTooLarge, `int f(int a, int b, int c, int d, int e, int f, int g, int @a, int a);`)
	unitFaults(t, api.ErrIncomplete, `int f(int a, int b, int c, int d, int e, int f, int g, void @h);`, `int f(void @a, int a);`)
	mainFaults(t, api.ErrZero, `int x[1 @/ 0] = { y };`)
	mainFaults(t, api.ErrConst, `int x[1 / 0 @+ i];`, `int x[i @+ 1 / 0];`)
}

// TestP10_1Behind: what is asked at the text's end is asked last.
func TestP10_1Behind(t *testing.T) {
	faults(t, api.ErrName, `int f(void); int main(int a) { return @x; }`, `int x = @y;`)
	faults(t, api.ErrDeclare, `int @f(void); int main(int a) { return a; }`, `int @f(void); int g(void);`)
	faults(t, api.ErrMain, `int f(void); int main(int a) { return a; } int f(void) { return 0; }`)
}

// TestP10_1Spots: lines and columns are those of the bytes.
func TestP10_1Spots(t *testing.T) {
	for _, marked := range []string{"int x;\n\n  int y = @z;", "int main(void)\n{\n\treturn 1 +\n\t\t@z;\n}", "/* a\nb */ int x; // c\nint @x;", "\n\n\n@enum E x;"} {
		text, at := unmark(t, marked)
		if _, f := Text(text); f.At != at || f.At != token.At(text, at.Off) {
			t.Errorf("%q: %v, want %v", text, f, at)
		}
	}
}

// TestP10_1Unit: a text that layer 6 refuses has layer 6's fault.
func TestP10_1Unit(t *testing.T) {
	for _, s := range []string{"int x {", "int main(void) { return 1 }", "@", "int x = y; )", "int x = 08;", "int x = \"", "/*", "int main(void) { return (((1); }", "x", "int", "\x00", "int main(void) { 1 (2); }", string(make([]byte, api.MaxText+1)), "int x = y; int main(void) { a + b = c; }"} {
		_, want := parse.Unit(s)
		if want.Code == api.OK {
			t.Fatalf("%q is a unit", s)
		}
		refuses(t, s, want)
	}
}

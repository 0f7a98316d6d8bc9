package model

import (
	"math"
	"strings"
	"testing"

	"mortise/api"
	"mortise/check"
)

// refused asks that a text's run is refused with a fault, and that nothing stands beside it.
func refused(t *testing.T, text string, fuel int, want api.Fault) {
	t.Helper()
	if o, f := Text(text, []byte("abc"), fuel); f != want || !same(o, api.Outcome{}) {
		t.Errorf("%.200q by %d: %v, %v, want %v", text, fuel, o, f, want)
	}
}

// TestP12_1Fuel: fuels are from 1 to MaxFuel.
func TestP12_1Fuel(t *testing.T) {
	const text = "int main(void) { return 7; }"
	p := programOf(t, text)
	for _, fuel := range []int{0, -1, -2, -4194304, api.MaxFuel + 1, api.MaxFuel + 2, 1<<32 + 1, 1<<32 + 100, 1<<62 + 3, math.MaxInt, math.MinInt, math.MinInt + 1} {
		if o, err := Run(p, []byte("abc"), fuel); err != api.ErrArg || !same(o, api.Outcome{}) {
			t.Errorf("Run by %d: %v, %d", fuel, o, err)
		}
		if o, err := Run(api.Prog{}, nil, fuel); err != api.ErrArg || !same(o, api.Outcome{}) {
			t.Errorf("Run of no program by %d: %v, %d", fuel, o, err)
		}
		refused(t, text, fuel, api.Fault{Code: api.ErrArg})
	}
	for fuel, want := range map[int]api.Outcome{
		1:               {Stop: api.StopFuel, Steps: 1},
		2:               {Stop: api.StopFuel, Steps: 2},
		3:               {Stop: api.StopExit, Code: 7, Steps: 3},
		4:               {Stop: api.StopExit, Code: 7, Steps: 3},
		api.MaxFuel - 1: {Stop: api.StopExit, Code: 7, Steps: 3},
		api.MaxFuel:     {Stop: api.StopExit, Code: 7, Steps: 3},
	} {
		if o, err := Run(p, nil, fuel); !same(o, want) || err != api.OK {
			t.Errorf("Run by %d: %v, %d, want %v", fuel, o, err, want)
		}
		if o := ran(t, text, "", fuel); !same(o, want) {
			t.Errorf("Text by %d: %v, want %v", fuel, o, want)
		}
	}
}

// TestP12_1MostFuel: a run may take MaxFuel steps, and takes no more.
func TestP12_1MostFuel(t *testing.T) {
	for _, fuel := range []int{api.MaxFuel - 1, api.MaxFuel} {
		if o := ran(t, "int main(void) { for (;;) ; }", "", fuel); !same(o, api.Outcome{Stop: api.StopFuel, Steps: fuel}) {
			t.Errorf("by %d: %v", fuel, o)
		}
	}
}

// TestP12_1Faults: a text's first fault is told, with its place, whatever the fuel is.
func TestP12_1Faults(t *testing.T) {
	long := strings.Repeat("x", 64)
	texts := map[string]api.Errno{
		"@":                 api.ErrToken,
		"int x = 09;":       api.ErrNumber,
		"int " + long + ";": api.ErrWord,
		"int main(void) { " + strings.Repeat("; ", 20000) + "}": api.ErrMany,
		strings.Repeat(" ", 65537):                              api.ErrText,
		"/* ":                                                   api.ErrComment,
		"char *p = \"abc":                                       api.ErrQuote,
		"int main(void) { return 0 }":                           api.ErrParse,
		"struct S; struct S s;":                                 api.ErrIncomplete,
		"char a[128][129];":                                     api.ErrLarge,
		"struct S { char c : 9; };":                             api.ErrBits,
		"int a[1 / 0];":                                         api.ErrZero,
		"int a[1] = { 1, 2 };":                                  api.ErrInit,
		"int main(void) { return y; }":                          api.ErrName,
		"int x; int x;":                                         api.ErrTwice,
		"int main(void) { &1; }":                                api.ErrLvalue,
		"int main(void) { return *1; }":                         api.ErrOperand,
		"int main(void) { putchar(); }":                         api.ErrCall,
		"int x, y = x;":                                         api.ErrConst,
		"int main(void) { break; }":                             api.ErrLoop,
		"int main(void) { return; }":                            api.ErrReturn,
		"":                                                      api.ErrMain,
		"int main(int x) { return 0; }":                         api.ErrMain,
		"int f(void); int main(void) { }":                       api.ErrDeclare,
		"int f(int a, int b, int c, int d, int e, int g, int h, int i) { return 0; }": api.ErrTooLarge,
		"struct S { int a; int a; };":                                   api.ErrTag,
		"int main(void) { return " + strings.Repeat("- ", 300) + "1; }": api.ErrNest,
	}
	for text, code := range texts {
		_, want := check.Text(text)
		if want.Code != code {
			t.Errorf("%.80q: layer 10 says %v", text, want)
		}
		for _, fuel := range []int{1, 5000, api.MaxFuel, 0, -1, api.MaxFuel + 1} {
			refused(t, text, fuel, want)
		}
	}
}

// TestP12_1Exit: a run ends by exit wherever that stands, with its number as an int.
func TestP12_1Exit(t *testing.T) {
	runs(t,
		exit("int main(void) { exit(3); return 4; }", 3),
		exit("int main(void) { exit(-1); }", -1),
		exit("int main(void) { exit(-2147483647 - 1); }", math.MinInt32),
		exit("int main(void) { exit(2147483647); }", math.MaxInt32),
		exit("int main(void) { exit(4294967295u); }", -1),
		exit("int main(void) { exit(256); }", 256),
		exit("int main(void) { exit((char) 200); }", -56),
		exit("void f(int n) { if (n) f(n - 1); else exit(9); } int main(void) { f(20); return 1; }", 9),
		exit("int main(void) { for (;;) { while (1) { do { exit(8); } while (1); } } }", 8),
		exit("int main(void) { int x = 1; return x + (exit(5), 2); }", 5),
		exit("int f(int a, int b) { return 1; } int main(void) { return f(6, (exit(7), 2)); }", 7),
		exit("int a[2]; int main(void) { a[exit(1), 0] = 3; }", 1),
		sample{"int main(void) { putchar('a'); exit(2); putchar('b'); }", api.StopExit, 2, "a"},
		sample{"int main(void) { exit(putchar('q')); }", api.StopExit, 'q', "q"},
		exit("int main(void) { exit((exit(1), 2)); }", 1),
		undefined("int f(void) { } int main(void) { exit(f()); }"),
	)
}

// TestP12_1MainsEnd: main's number is the code, and 0, if it ends without one.
func TestP12_1MainsEnd(t *testing.T) {
	runs(t,
		exit("int main(void) { }", 0),
		exit("int main(void) { 5; }", 0),
		exit("int main(void) { if (0) return 3; }", 0),
		exit("int main(void) { return 0; }", 0),
		exit("int main(void) { return -7; }", -7),
		exit("int main(void) { return 2147483648u; }", math.MinInt32),
		exit("int main(void) { return 65536; }", 65536),
		exit("int main(void) { { { return 4; } } return 5; }", 4),
		exit("int n; int main(void) { if (n++ < 3) return main() + 1; return 10; }", 13),
		undefined("int n; int main(void) { if (n++ < 3) return main() + 1; }"), // main's own end is another thing than the value of a call of it
		exit("int n; int main(void) { if (n++ < 3) main(); }", 0),
		undefined("int f(void) { } int main(void) { return f(); }"),
	)
}

// TestP12_1Others: beside the other stops the code is 0, and what was put out stays.
func TestP12_1Others(t *testing.T) {
	runs(t,
		sample{"int main(void) { putchar('x'); return 1 / 0; }", api.StopZero, 0, "x"},
		sample{"int main(void) { int y; putchar('x'); return y; }", api.StopUndef, 0, "x"},
		sample{"int main(void) { putchar('x'); return main(); }", api.StopDeep, 0, strings.Repeat("x", 64)},
		sample{"int main(void) { putchar('x'); for (;;) ; }", api.StopFuel, 0, "x"},
	)
}

// TestP12_1Out: bytes go out in order, the lowest one of each number.
func TestP12_1Out(t *testing.T) {
	runs(t,
		puts("int main(void) { putchar(0); putchar(255); putchar(256); putchar(-1); putchar(0x12345678); putchar((char) 200); return 0; }", "\x00\xff\x00\xff\x78\xc8"),
		exit("int main(void) { return 0; }", 0),
	)
	o := ran(t, "int main(void) { int i; for (i = 0; i < 256; i++) if (putchar(i + 512) != i) return 1; return putchar(-1) == 255 ? 0 : 2; }", "", enough)
	all := make([]byte, 257)
	for i := range all {
		all[i] = byte(i)
	}
	all[256] = 255
	if o.Stop != api.StopExit || o.Code != 0 || string(o.Out) != string(all) {
		t.Errorf("%v", o)
	}
}

// TestP12_1Input: bytes are from 0 to 255, and -1 stands behind the input's end, however often.
func TestP12_1Input(t *testing.T) {
	const echo = "int main(void) { int n = 0, c; while ((c = getchar()) >= 0) { putchar(255 - c); n++; } return getchar() == -1 && getchar() == -1 ? n : -5; }"
	all := make([]byte, 256)
	back := make([]byte, 256)
	for i := range all {
		all[i], back[i] = byte(i), byte(255-i)
	}
	if o := ran(t, echo, string(all), enough); o.Stop != api.StopExit || o.Code != 256 || string(o.Out) != string(back) {
		t.Errorf("%v", o)
	}
	for input, code := range map[string]int{"": 0, "a": 1, "\x00": 1, "\xff\xff": 2, "\x00\xff\x00": 3} {
		if o := ran(t, echo, input, enough); o.Stop != api.StopExit || o.Code != code || len(o.Out) != code {
			t.Errorf("%q: %v", input, o)
		}
		agrees(t, echo, input, enough)
	}
	for _, input := range []string{"", "x", "xy", "xyz"} {
		agrees(t, "int main(void) { return getchar() - getchar() * 1000; }", input, enough)
	}
	if o := ran(t, "int main(void) { return getchar() - getchar() * 1000; }", "xy", enough); o.Code != 'x'-'y'*1000 {
		t.Errorf("the input is not read from the left: %v", o)
	}
}

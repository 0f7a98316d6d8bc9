package check

import (
	"fmt"
	"reflect"
	"strings"
	"testing"

	"mortise/api"
	"mortise/ctype"
	"mortise/layout"
	"mortise/parse"
)

// typeOf asks for a type's name and size.
func typeOf(t *testing.T, unit, name string) string {
	t.Helper()
	rows, id, f := Type(unit, name)
	if f != (api.Fault{}) {
		return fmt.Sprint("fault ", f.Code)
	}
	c, err := ctype.From(rows)
	if err != api.OK {
		t.Fatalf("%q, %q: the rows are no table", unit, name)
	}
	size, err := layout.Size(c, id)
	if err != api.OK {
		t.Fatalf("%q, %q: error %d", unit, name, err)
	}
	s, _ := c.Declare(id, "")
	return fmt.Sprint(s, ", ", size)
}

// TestP10_2Types: types of names, in units with main and without it.
func TestP10_2Types(t *testing.T) {
	for _, c := range []struct{ unit, name, want string }{
		{"struct S { char c; int i; };", "struct S [2]", "struct S [2], 16"},
		{"struct S { char c; int i; };", "struct S", "struct S, 8"},
		{"", "int", "int, 4"}, {"", "char *[3]", "char *[3], 12"}, {"", "unsigned char", "unsigned char, 1"}, {"", "void *", "void *, 4"}, {"", "struct S *", "struct S *, 4"}, {"", "struct { char c; short h; }", "struct #1, 4"}, {"struct { int a; } x;", "union { char c[5]; int : 3; }", "union #2, 5"}, {"", "enum { A }", "enum #1, 4"},
		{"typedef struct { int a[3]; } T, *U; T x;", "T", "struct #1, 12"}, {"typedef struct { int a[3]; } T, *U;", "U *", "struct #1 **, 4"}, {"typedef int T[3];", "T [2]", "int [2][3], 24"}, {"typedef int T; typedef char U;", "U (*)[sizeof(T)]", "char (*)[4], 4"},
		{"enum { N = 3 }; int x[2];", "char [N + sizeof x]", "char [11], 11"}, {"", "char [sizeof \"abc\"]", "char [4], 4"}, {"int f(void); int g(int a) { return f(); }", "char [sizeof f()]", "char [4], 4"}, {"", "char [sizeof (int[]){1, 2}]", "char [8], 8"},
		{"int f(void);", "int", "int, 4"}, {"int main(int a) { return a; }", "int", "int, 4"}, {"int main;", "long", "long, 4"}, {"int main(void) { typedef char T; T x; return x; } typedef short T;", "T", "short, 2"},
		{"struct S; struct S *p; struct S { int a; };", "struct S", "struct S, 4"}, {"struct S;", "struct S { int a, b; }", "struct S, 8"}, {"int f(struct P { int a; } x);", "struct P { char c; }", "struct P, 1"}, {"int x;", "struct x { char c; }", "struct x, 1"},
	} {
		if got := typeOf(t, c.unit, c.name); got != c.want {
			t.Errorf("%q, %q: got %s, want %s", c.unit, c.name, got, c.want)
		}
	}
}

// refusesType asks for a fault of a unit and a name, and that nothing stands beside it.
func refusesType(t *testing.T, unit, name string, want api.Fault) {
	t.Helper()
	if rows, id, f := Type(unit, name); f != want || len(rows) != 0 || id != 0 {
		t.Errorf("%.200q, %.200q: got %v (%d rows, %d), want %v", unit, name, f, len(rows), id, want)
	}
}

// TestP10_2Faults: the faults of the unit, of the name, of the type, of its size, in this order.
func TestP10_2Faults(t *testing.T) {
	for _, unit := range []string{"int x {", "@", "int", "int x = \"", "int x = y; }"} {
		_, want := parse.Unit(unit)
		for _, name := range []string{"int", "", "x", "void", "int [0]"} {
			refusesType(t, unit, name, want)
		}
	}
	for first, code := range faulty() {
		unit, at := unmark(t, numbered(first, ""))
		for _, name := range []string{"int", "", "x", "void", "int [0]"} {
			refusesType(t, unit, name, api.Fault{Code: code, At: at})
		}
	}
	for _, name := range []string{"", "x", "int x", "T", "1", "int [", "int;", "int int", "struct", "struct {", "static int", "typedef int", "struct S { }", "int *)", "\"", "@", "f", strings.Repeat("(", 300), "int " + strings.Repeat("*", 300)} {
		_, want := parse.Type(name, nil)
		if want.Code == api.OK {
			t.Fatalf("%q is a type", name)
		}
		for _, unit := range []string{"", "int x; int f(void);", "int g(void) { typedef int T; T x; return x; }"} {
			refusesType(t, unit, name, want)
		}
	}
	for marked, code := range map[string]api.Errno{
		"@int [0]": api.ErrDeclare, "  @int (void)": api.ErrDeclare, "@int (*)(int)": api.ErrDeclare, "int [@x1]": api.ErrName, "@enum E": api.ErrName, "int [@x]": api.ErrConst, "int [1 @/ 0]": api.ErrZero, "@void [2]": api.ErrIncomplete, "struct { int @a : 33; }": api.ErrBits, "@struct { int a, a; }": api.ErrTag, "@union S": api.ErrTwice, "@struct S { int a; }": api.ErrTwice, "enum { @x }": api.ErrTwice, "enum { @T }": api.ErrTwice, "char [sizeof @f]": api.ErrOperand, "@int [2][0]": api.ErrDeclare, "char [@f()]": api.ErrConst, "T *[@v()]": api.ErrOperand, "@struct { struct O o; }": api.ErrIncomplete,
	} {
		name, at := unmark(t, marked)
		refusesType(t, "int x; struct S { int a; }; typedef int T; int f(void); void v(void);", name, api.Fault{Code: code, At: at})
	}
	for name, code := range map[string]api.Errno{"void": api.ErrIncomplete, "int []": api.ErrIncomplete, "struct O": api.ErrIncomplete, "V": api.ErrIncomplete, "A": api.ErrIncomplete, "struct U": api.ErrIncomplete, "int [4097]": api.ErrLarge, "struct { int a[4096]; char c; }": api.ErrLarge, "H": api.ErrLarge, "H [1]": api.ErrLarge} {
		refusesType(t, "struct O; typedef void V; typedef int A[]; typedef int H[16384]; int f(struct U { int a; } x);", name, api.Fault{Code: code})
	}
}

// TestP10_2Aliases: the names of typedefs that stand at the unit's end, and no others.
func TestP10_2Aliases(t *testing.T) {
	const unit = "typedef int T, U; int x; enum { A }; int f(void) { typedef char V; V y; return y; } int g(int T) { return T; } struct W { int a; };"
	for name, want := range map[string]string{"T": "int, 4", "U *": "int *, 4", "T (*)[2]": "int (*)[2], 4", "x": "fault 60", "A": "fault 60", "V": "fault 60", "f": "fault 60", "W": "fault 60", "main": "fault 60", "putchar": "fault 60"} {
		if got := typeOf(t, unit, name); got != want {
			t.Errorf("%q: got %s, want %s", name, got, want)
		}
	}
}

// TestP10_2NewMemory: the rows are new memory, and the same call answers the same.
func TestP10_2NewMemory(t *testing.T) {
	const unit, name = "struct S { int a; char b; struct S *p; }; typedef struct S T[2];", "struct { T t; struct S *q; }"
	one, id, f := Type(unit, name)
	other, same, _ := Type(unit, name)
	if f != (api.Fault{}) || id != same || !reflect.DeepEqual(one, other) {
		t.Fatalf("%v, %d, %d", f, id, same)
	}
	for i := range one {
		for j := range one[i].Members {
			one[i].Members[j].Type = -1
		}
		one[i].Kind = 0
	}
	if again, _, _ := Type(unit, name); !reflect.DeepEqual(again, other) {
		t.Error("an answer was changed, and the next one with it")
	}
}

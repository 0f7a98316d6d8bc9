package conv

import (
	"slices"
	"testing"

	"mortise/api"
	"mortise/ctype"
)

// binaryCase is an operator between two types, and what is shown of its work.
type binaryCase struct {
	left, op, right string
	want            string
}

// asks holds cases against Binary.
func (k *kit) asks(cases []binaryCase) {
	k.t.Helper()
	for _, c := range cases {
		if got := k.show(Binary(k.Table, c.op, k.id(c.left), k.id(c.right))); got != c.want {
			k.t.Errorf("%s %s %s: %s, want %s", c.left, c.op, c.right, got, c.want)
		}
	}
}

// TestP7_2Examples: the chapter's examples.
func TestP7_2Examples(t *testing.T) {
	newKit(t).asks([]binaryCase{
		{"int *", "+", "char", "add(int *, int) int * x4"},
		{"unsigned int", "<", "int", "ltu(unsigned int, unsigned int) int"},
		{"int *", "-", "char *", "kind"},
	})
}

// TestP7_2Arithmetic: the first row, with each of its signs, signed and unsigned, both orders.
func TestP7_2Arithmetic(t *testing.T) {
	k := newKit(t)
	k.asks([]binaryCase{
		{"int", "+", "int", "add(int, int) int"},
		{"int", "-", "int", "sub(int, int) int"},
		{"int", "*", "int", "mul(int, int) int"},
		{"int", "/", "int", "divs(int, int) int"},
		{"int", "%", "int", "rems(int, int) int"},
		{"int", "&", "int", "and(int, int) int"},
		{"int", "|", "int", "or(int, int) int"},
		{"int", "^", "int", "xor(int, int) int"},
		{"char", "/", "unsigned short", "divs(int, int) int"},
		{"unsigned char", "%", "unsigned char", "rems(int, int) int"},
		{"unsigned int", "/", "int", "divu(unsigned int, unsigned int) unsigned int"},
		{"short", "%", "unsigned int", "remu(unsigned int, unsigned int) unsigned int"},
		{"long", "/", "int", "divs(long, long) long"},
		{"long", "%", "unsigned int", "remu(unsigned long, unsigned long) unsigned long"},
		{"unsigned int", "/", "long", "divu(unsigned long, unsigned long) unsigned long"},
		{"unsigned long", "*", "_Bool", "mul(unsigned long, unsigned long) unsigned long"},
		{"_Bool", "+", "_Bool", "add(int, int) int"},
		{"enum E", "-", "enum F", "sub(int, int) int"},
		{"enum E", "|", "enum E", "or(int, int) int"},
		{"unsigned int", "^", "enum E", "xor(unsigned int, unsigned int) unsigned int"},
		{"enum E", "&", "long", "and(long, long) long"},
	})
}

// TestP7_2Shift: the second row; the right side tells nothing of the result.
func TestP7_2Shift(t *testing.T) {
	k := newKit(t)
	k.asks([]binaryCase{
		{"int", "<<", "int", "shl(int, int) int"},
		{"int", ">>", "int", "shrs(int, int) int"},
		{"char", ">>", "unsigned long", "shrs(int, int) int"},
		{"unsigned long", ">>", "char", "shru(unsigned long, int) unsigned long"},
		{"unsigned long", "<<", "char", "shl(unsigned long, int) unsigned long"},
		{"int", "<<", "unsigned int", "shl(int, int) int"},
		{"unsigned int", "<<", "int", "shl(unsigned int, int) unsigned int"},
		{"unsigned int", ">>", "long", "shru(unsigned int, int) unsigned int"},
		{"unsigned short", ">>", "unsigned int", "shrs(int, int) int"},
		{"_Bool", ">>", "_Bool", "shrs(int, int) int"},
		{"enum E", ">>", "enum F", "shrs(int, int) int"},
		{"long", ">>", "unsigned long", "shrs(long, int) long"},
		{"int *", "<<", "int", "kind"},
		{"int", "<<", "int *", "kind"},
		{"int *", ">>", "int *", "kind"},
	})
}

// TestP7_2Compare: the third row; > and >= are told as < and <= of exchanged operands.
func TestP7_2Compare(t *testing.T) {
	k := newKit(t)
	k.asks([]binaryCase{
		{"int", "==", "char", "eq(int, int) int"},
		{"int", "!=", "char", "ne(int, int) int"},
		{"unsigned int", "==", "long", "eq(unsigned long, unsigned long) int"},
		{"int", "<", "int", "lts(int, int) int"},
		{"int", "<=", "int", "les(int, int) int"},
		{"int", ">", "int", "lts(int, int) int"},
		{"int", ">=", "int", "les(int, int) int"},
		{"int", "<", "unsigned int", "ltu(unsigned int, unsigned int) int"},
		{"int", "<=", "unsigned int", "leu(unsigned int, unsigned int) int"},
		{"int", ">", "unsigned int", "ltu(unsigned int, unsigned int) int"},
		{"unsigned int", ">=", "int", "leu(unsigned int, unsigned int) int"},
		{"unsigned char", "<", "signed char", "lts(int, int) int"},
		{"long", ">=", "enum E", "les(long, long) int"},
		{"_Bool", ">", "unsigned long", "ltu(unsigned long, unsigned long) int"},
	})
}

// TestP7_2Moved: a pointer and an integer, either first.
func TestP7_2Moved(t *testing.T) {
	k := newKit(t)
	k.asks([]binaryCase{
		{"char *", "+", "int", "add(char *, int) char * x1"},
		{"int", "+", "char *", "add(int, char *) char * x1"},
		{"short *", "-", "unsigned long", "sub(short *, int) short * x2"},
		{"unsigned long", "+", "short *", "add(int, short *) short * x2"},
		{"int *", "+", "_Bool", "add(int *, int) int * x4"},
		{"enum E", "+", "int *", "add(int, int *) int * x4"},
		{"int *", "-", "enum F", "sub(int *, int) int * x4"},
		{"enum E *", "+", "int", "add(enum E *, int) enum E * x4"},
		{"void **", "+", "int", "add(void **, int) void ** x4"},
		{"struct Pair *", "-", "int", "sub(struct Pair *, int) struct Pair * x8"},
		{"int", "+", "union Pair *", "add(int, union Pair *) union Pair * x4"},
		{"struct One *", "+", "char", "add(struct One *, int) struct One * x1"},
		{"int (*)[3]", "+", "int", "add(int (*)[3], int) int (*)[3] x12"},
		{"short (*)[7][3]", "-", "int", "sub(short (*)[7][3], int) short (*)[7][3] x42"},
		{"char (*)[16384]", "+", "int", "add(char (*)[16384], int) char (*)[16384] x16384"},
		{"int", "-", "int *", "kind"},
		{"int", "*", "int *", "kind"},
		{"int *", "/", "int", "kind"},
		{"int *", "%", "int", "kind"},
		{"int *", "&", "int", "kind"},
		{"int *", "|", "int", "kind"},
		{"int *", "^", "int", "kind"},
		{"int *", "==", "int", "kind"},
		{"int", "<", "int *", "kind"},
	})
}

// TestP7_2NoSize: pointers to what has no size are not moved and not subtracted, but compared.
func TestP7_2NoSize(t *testing.T) {
	k := newKit(t)
	for name, err := range map[string]string{"void *": "incomplete", "struct Open *": "incomplete", "union Open *": "incomplete", "int (*)[]": "incomplete", "int (*)[16384]": "large"} {
		k.asks([]binaryCase{
			{name, "+", "int", err},
			{"int", "+", name, err},
			{name, "-", "int", err},
			{name, "-", name, err},
			{"int", "-", name, "kind"},
			{name, "-", "int *", "kind"},
			{name, "+", name, "kind"},
			{name, "*", "int", "kind"},
			{name, "==", name, "eq(" + name + ", " + name + ") int"},
			{name, "<", name, "ltu(" + name + ", " + name + ") int"},
			{name, ">=", name, "leu(" + name + ", " + name + ") int"},
		})
	}
}

// TestP7_2Pointers: two pointers, of one type and of two, and to void.
func TestP7_2Pointers(t *testing.T) {
	k := newKit(t)
	k.asks([]binaryCase{
		{"int *", "-", "int *", "sub(int *, int *) int x4"},
		{"struct Pair *", "-", "struct Pair *", "sub(struct Pair *, struct Pair *) int x8"},
		{"int *", "-", "unsigned int *", "kind"},
		{"int *", "-", "void *", "kind"},
		{"void *", "-", "int *", "kind"},
		{"int *", "+", "int *", "kind"},
		{"int *", "==", "int *", "eq(int *, int *) int"},
		{"int *", "!=", "int *", "ne(int *, int *) int"},
		{"int *", "==", "void *", "eq(int *, int *) int"},
		{"void *", "==", "int *", "eq(void *, void *) int"},
		{"void *", "!=", "struct Open *", "ne(void *, void *) int"},
		{"struct Open *", "!=", "void *", "ne(struct Open *, struct Open *) int"},
		{"void **", "==", "void *", "eq(void **, void **) int"},
		{"void **", "==", "int **", "kind"},
		{"int *", "==", "char *", "kind"},
		{"struct Pair *", "==", "struct Twin *", "kind"},
		{"int *", "<", "int *", "ltu(int *, int *) int"},
		{"int *", "<=", "int *", "leu(int *, int *) int"},
		{"int *", ">", "int *", "ltu(int *, int *) int"},
		{"int *", ">=", "int *", "leu(int *, int *) int"},
		{"int *", "<", "void *", "kind"},
		{"void *", ">=", "int *", "kind"},
		{"int *", "<=", "char *", "kind"},
		{"int *", "*", "int *", "kind"},
		{"int *", "<<", "int *", "kind"},
	})
}

// TestP7_2SameTag: pointers to two structs of one tag are two types.
func TestP7_2SameTag(t *testing.T) {
	k := newKit(t)
	p := k.took(k.Ptr(k.id("struct Pair")))
	q := k.took(k.Ptr(k.id("struct Pair") + 1))
	for _, op := range signs() {
		if got := k.show(Binary(k.Table, op, p, q)); got != "kind" {
			t.Errorf("%s %s %s: %s, want kind", k.name(p), op, k.name(q), got)
		}
	}
}

// TestP7_2Others: void, arrays, structs and unions are no operands.
func TestP7_2Others(t *testing.T) {
	k := newKit(t)
	for _, name := range []string{"void", "int [3]", "int []", "struct Pair", "struct Open", "union Pair", "union Open"} {
		for _, op := range signs() {
			k.asks([]binaryCase{{name, op, name, "kind"}, {name, op, "int", "kind"}, {"int", op, name, "kind"}, {name, op, "int *", "kind"}, {"int *", op, name, "kind"}})
		}
	}
}

// TestP7_2All: every sign between every two types, held against the second telling.
func TestP7_2All(t *testing.T) {
	k := newKit(t)
	fits := 0
	for a := range k.Len() {
		for b := range k.Len() {
			for _, op := range signs() {
				want, wantErr := k.slowBinary(op, a, b)
				got, err := Binary(k.Table, op, a, b)
				if got != want || err != wantErr {
					t.Fatalf("%s %s %s: %s, want %s", k.name(a), op, k.name(b), k.show(got, err), k.show(want, wantErr))
				}
				if err == api.OK {
					fits++
				}
			}
		}
	}
	if fits < 3000 {
		t.Errorf("only %d of the cases fit", fits)
	}
}

// TestP7_2StrangeSigns: what is no operator fits no types.
func TestP7_2StrangeSigns(t *testing.T) {
	k := newKit(t)
	for _, op := range append(strangeSigns(), "!", "~") {
		for _, name := range []string{"int", "unsigned int", "void", "int *", "void *", "struct Pair"} {
			k.asks([]binaryCase{{name, op, "int", "kind"}, {"int", op, name, "kind"}, {name, op, name, "kind"}})
		}
	}
}

// TestP7_2OtherTables: types have other numbers in another table, of rows and full.
func TestP7_2OtherTables(t *testing.T) {
	k := newKit(t)
	again, err := ctype.From(k.Rows())
	if err != api.OK {
		t.Fatal(err)
	}
	full := ctype.New()
	for full.Len() < api.MaxTypes {
		k.took(full.Ptr(full.Len() - 1))
	}
	last := full.Len() - 1
	if o, err := Binary(full, "+", 2, last); o != (api.Oper{Op: api.OpAdd, Left: 7, Right: last, Result: last, Scale: 4}) || err != api.OK {
		t.Errorf("in a full table: %v, %d", o, err)
	}
	for a := range again.Len() {
		for _, b := range []int{2, 7, 10, a} {
			for _, op := range signs() {
				one, err1 := Binary(k.Table, op, a, b)
				two, err2 := Binary(again, op, a, b)
				if one != two || err1 != err2 {
					t.Fatalf("%d %s %d: %v, %d of one table, %v, %d of its copy", a, op, b, one, err1, two, err2)
				}
			}
		}
	}
	if !slices.EqualFunc(again.Rows(), k.Rows(), sameRow) {
		t.Error("the table was changed")
	}
}

// sameRow tells whether two rows are the same.
func sameRow(a, b api.TypeRow) bool {
	return a.Kind == b.Kind && a.Elem == b.Elem && a.Len == b.Len && a.Tag == b.Tag && a.Done == b.Done && slices.Equal(a.Members, b.Members)
}

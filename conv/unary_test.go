package conv

import "testing"

// TestP7_3All: each sign and each type, by the classes of types.
func TestP7_3All(t *testing.T) {
	k := newKit(t)
	for id := range k.Len() {
		sign, not := "kind", "kind"
		switch k.class(id) {
		case "i":
			sign, not = k.name(k.slowUsual(id, id)), "int"
		case "p":
			not = "int"
		}
		for op, want := range map[string]string{"+": sign, "-": sign, "~": sign, "!": not} {
			if got := k.showType(Unary(k.Table, op, id)); got != want {
				t.Errorf("%s %s: %s, want %s", op, k.name(id), got, want)
			}
		}
	}
}

// TestP7_3Cases: each kind of type by name.
func TestP7_3Cases(t *testing.T) {
	k := newKit(t)
	for _, c := range []struct{ name, sign, not string }{
		{"_Bool", "int", "int"},
		{"char", "int", "int"},
		{"signed char", "int", "int"},
		{"unsigned char", "int", "int"},
		{"short", "int", "int"},
		{"unsigned short", "int", "int"},
		{"int", "int", "int"},
		{"unsigned int", "unsigned int", "int"},
		{"long", "long", "int"},
		{"unsigned long", "unsigned long", "int"},
		{"enum E", "int", "int"},
		{"void", "kind", "kind"},
		{"int *", "kind", "int"},
		{"void *", "kind", "int"},
		{"struct Open *", "kind", "int"},
		{"int [3]", "kind", "kind"},
		{"int []", "kind", "kind"},
		{"struct Pair", "kind", "kind"},
		{"struct Open", "kind", "kind"},
		{"union Pair", "kind", "kind"},
		{"union Open", "kind", "kind"},
	} {
		for op, want := range map[string]string{"+": c.sign, "-": c.sign, "~": c.sign, "!": c.not} {
			if got := k.showType(Unary(k.Table, op, k.id(c.name))); got != want {
				t.Errorf("%s %s: %s, want %s", op, c.name, got, want)
			}
		}
	}
}

// TestP7_3StrangeSigns: what is no operator, or one between two operands alone, has no result.
func TestP7_3StrangeSigns(t *testing.T) {
	k := newKit(t)
	for _, op := range append(strangeSigns(), "*", "/", "%", "&", "|", "^", "<<", ">>", "==", "!=", "<", "<=", ">", ">=") {
		for id := range k.Len() {
			if got := k.showType(Unary(k.Table, op, id)); got != "kind" {
				t.Errorf("%q %s: %s, want kind", op, k.name(id), got)
			}
		}
	}
}

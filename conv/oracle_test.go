package conv

import (
	"slices"
	"strings"

	"mortise/api"
	"mortise/word"
)

// The chapter told a second time: its table is a list of lines, of which the first one that fits tells the answer.

// line is a line of Binary's table: its signs, the classes of its operands (i an integer, p a pointer), what else it asks of them, and what it tells.
type line struct {
	signs   string
	classes string
	fits    func(k *kit, a, b int) bool
	tell    func(k *kit, op string, a, b int) (api.Oper, api.Errno)
}

// class is i of an integer, p of a pointer, s of a struct or a union, v of void, a of an array.
func (k *kit) class(id int) string {
	row, _ := k.Row(id)
	return []string{"?", "v", "i", "i", "i", "i", "i", "i", "i", "i", "i", "i", "i", "p", "a", "s", "s"}[row.Kind]
}

// anyTwo asks nothing more.
func anyTwo(*kit, int, int) bool { return true }

// oneType asks for one type.
func oneType(_ *kit, a, b int) bool { return a == b }

// oneTypeOrVoid asks for two pointers of one type, or of which one is to void.
func oneTypeOrVoid(k *kit, a, b int) bool {
	return a == b || k.name(a) == "void *" || k.name(b) == "void *"
}

// lines are the table's lines.
func lines() []line {
	return []line{
		{"+ - * / % & | ^", "ii", anyTwo, tellArithmetic},
		{"<< >>", "ii", anyTwo, tellShift},
		{"== != < <= > >=", "ii", anyTwo, tellCompared},
		{"+ -", "pi", anyTwo, tellMoved},
		{"+", "ip", anyTwo, tellMovedBehind},
		{"-", "pp", oneType, tellDistance},
		{"== !=", "pp", oneTypeOrVoid, tellPointers},
		{"< <= > >=", "pp", oneType, tellPointers},
	}
}

// slowBinary looks the answer up.
func (k *kit) slowBinary(op string, a, b int) (api.Oper, api.Errno) {
	for _, l := range lines() {
		if slices.Contains(strings.Fields(l.signs), op) && l.classes == k.class(a)+k.class(b) && l.fits(k, a, b) {
			return l.tell(k, op, a, b)
		}
	}
	return api.Oper{}, api.ErrKind
}

// slowUsual is the basic type of the usual kind of two integers, from the table of letters.
func (k *kit) slowUsual(a, b int) int {
	first, _ := k.Row(a)
	second, _ := k.Row(b)
	letter := usualTable()[first.Kind-api.TBool][second.Kind-api.TBool]
	return k.id(map[byte]string{'i': "int", 'u': "unsigned int", 'l': "long", 'm': "unsigned long"}[letter])
}

// named is the operation of a sign; on is the type that it is done in.
func (k *kit) named(op string, on int) api.BinOp {
	signed := map[string]string{
		"+": "add", "-": "sub", "*": "mul", "&": "and", "|": "or", "^": "xor", "<<": "shl", "==": "eq", "!=": "ne",
		"/": "divs", "%": "rems", ">>": "shrs", "<": "lts", "<=": "les", ">": "lts", ">=": "les",
	}
	unsigned := map[string]string{"/": "divu", "%": "remu", ">>": "shru", "<": "ltu", "<=": "leu", ">": "ltu", ">=": "leu"}
	name := signed[op]
	if on != k.id("int") && on != k.id("long") && unsigned[op] != "" {
		name = unsigned[op]
	}
	for n := api.BinOp(1); n < 20; n++ {
		if word.Name(n) == name {
			return n
		}
	}
	return 0
}

// width is how many bytes an element has, told by its name.
func (k *kit) width(id int) (int, api.Errno) {
	sizes := map[string]int{
		"_Bool": 1, "char": 1, "signed char": 1, "unsigned char": 1, "short": 2, "unsigned short": 2, "int": 4, "unsigned int": 4,
		"long": 4, "unsigned long": 4, "enum E": 4, "enum F": 4, "struct Pair": 8, "struct Twin": 8, "union Pair": 4, "union Twin": 4,
		"struct One": 1, "int [3]": 12, "char [16384]": 16384, "short [3]": 6, "short [7][3]": 42, "void *": 4, "int *": 4,
	}
	name, _ := k.Declare(id, "")
	switch n := sizes[name]; {
	case n > 0:
		return n, api.OK
	case name == "int [16384]":
		return 0, api.ErrLarge
	}
	return 0, api.ErrIncomplete
}

// scaled puts the size of a pointer's element in.
func (k *kit) scaled(pointer int, o api.Oper) (api.Oper, api.Errno) {
	row, _ := k.Row(pointer)
	n, err := k.width(row.Elem)
	if err != api.OK {
		return api.Oper{}, err
	}
	o.Scale = n
	return o, api.OK
}

func tellArithmetic(k *kit, op string, a, b int) (api.Oper, api.Errno) {
	id := k.slowUsual(a, b)
	return api.Oper{Op: k.named(op, id), Left: id, Right: id, Result: id}, api.OK
}

func tellShift(k *kit, op string, a, b int) (api.Oper, api.Errno) {
	id := k.slowUsual(a, a)
	return api.Oper{Op: k.named(op, id), Left: id, Right: k.id("int"), Result: id}, api.OK
}

func tellCompared(k *kit, op string, a, b int) (api.Oper, api.Errno) {
	id := k.slowUsual(a, b)
	return api.Oper{Op: k.named(op, id), Left: id, Right: id, Result: k.id("int")}, api.OK
}

func tellMoved(k *kit, op string, a, b int) (api.Oper, api.Errno) {
	return k.scaled(a, api.Oper{Op: k.named(op, a), Left: a, Right: k.id("int"), Result: a})
}

func tellMovedBehind(k *kit, op string, a, b int) (api.Oper, api.Errno) {
	return k.scaled(b, api.Oper{Op: k.named(op, b), Left: k.id("int"), Right: b, Result: b})
}

func tellDistance(k *kit, op string, a, b int) (api.Oper, api.Errno) {
	return k.scaled(a, api.Oper{Op: k.named(op, a), Left: a, Right: a, Result: k.id("int")})
}

func tellPointers(k *kit, op string, a, b int) (api.Oper, api.Errno) {
	return api.Oper{Op: k.named(op, a), Left: a, Right: a, Result: k.id("int")}, api.OK
}

// slowAssign, slowCast and slowCond tell by the classes of both types.
func (k *kit) slowAssign(to, from int) api.Errno {
	row, _ := k.Row(to)
	switch k.class(to) + k.class(from) {
	case "ii":
		return api.OK
	case "pp":
		if oneTypeOrVoid(k, to, from) {
			return api.OK
		}
	case "ss":
		if to == from && row.Done {
			return api.OK
		}
	}
	return api.ErrKind
}

func (k *kit) slowCast(to, from int) api.Errno {
	switch k.class(to) + k.class(from) {
	case "vv", "vi", "vp", "va", "vs", "ii", "pp":
		return api.OK
	case "ip":
		if k.name(to) == "_Bool" {
			return api.OK
		}
	}
	return api.ErrKind
}

func (k *kit) slowCond(a, b int) (int, api.Errno) {
	switch k.class(a) + k.class(b) {
	case "ii":
		return k.slowUsual(a, b), api.OK
	case "pp":
		if a == b {
			return a, api.OK
		}
		if oneTypeOrVoid(k, a, b) {
			return k.id("void *"), api.OK
		}
	case "ss", "vv":
		if a == b {
			return a, api.OK
		}
	}
	return 0, api.ErrKind
}

package conv

import (
	"math"
	"strconv"
	"strings"
	"testing"

	"mortise/api"
	"mortise/ctype"
	"mortise/word"
)

// kit is a table that has every kind of type; they are found by the names that C gives them.
type kit struct {
	*ctype.Table
	t     testing.TB
	names map[string]int
}

// newKit makes the table.
func newKit(t testing.TB) *kit {
	k := &kit{Table: ctype.New(), t: t, names: map[string]int{}}
	k.enums()
	k.records()
	k.arrays()
	k.pointers()
	for id := range k.Len() {
		name, _ := k.Declare(id, "")
		if _, twice := k.names[name]; !twice {
			k.names[name] = id
		}
	}
	return k
}

// took answers a type's number, if it was not refused.
func (k *kit) took(id int, err api.Errno) int {
	k.t.Helper()
	if err != api.OK {
		k.t.Fatalf("a type was refused: %d", err)
	}
	return id
}

// enums makes two enumerations.
func (k *kit) enums() {
	k.took(k.Enum("E"))
	k.took(k.Enum("F"))
}

// records makes structs and unions, done and not; two pairs are alike in all but their numbers.
func (k *kit) records() {
	pair := []api.Member{{Name: "i", Type: 7, Bits: -1}, {Name: "c", Type: 2, Bits: -1}, {Name: "b", Type: 8, Bits: 5}}
	one := []api.Member{{Name: "c", Type: 2, Bits: -1}}
	for _, tag := range []string{"Pair", "Pair", "Twin"} {
		id := k.took(k.Struct(tag))
		k.took(id, k.Complete(id, pair))
	}
	for _, tag := range []string{"Pair", "Twin"} {
		id := k.took(k.Union(tag))
		k.took(id, k.Complete(id, pair))
	}
	id := k.took(k.Struct("One"))
	k.took(id, k.Complete(id, one))
	k.took(k.Struct("Open"))
	k.took(k.Struct("Open"))
	k.took(k.Union("Open"))
}

// arrays makes arrays, with and without a length, of 16384 bytes and of more.
func (k *kit) arrays() {
	k.took(k.Array(7, 3))
	k.took(k.Array(7, -1))
	k.took(k.Array(2, 16384))
	k.took(k.Array(7, 16384))
	k.took(k.Array(k.took(k.Array(5, 3)), 7))
}

// pointers makes a pointer to each of the types, and some to pointers.
func (k *kit) pointers() {
	for id := range k.Len() {
		k.took(k.Ptr(id))
	}
	k.took(k.Ptr(k.took(k.Ptr(0))))
	k.took(k.Ptr(k.took(k.Ptr(7))))
	k.took(k.Array(k.took(k.Ptr(7)), 2))
}

// id is the number of the type of a name.
func (k *kit) id(name string) int {
	k.t.Helper()
	id, ok := k.names[name]
	if !ok {
		k.t.Fatalf("the table has no type %q", name)
	}
	return id
}

// name is a type's name, with the number of one whose name another one has, too.
func (k *kit) name(id int) string {
	name, err := k.Declare(id, "")
	switch {
	case err != api.OK:
		return "no type " + strconv.Itoa(id)
	case k.names[name] != id:
		return name + " #" + strconv.Itoa(id)
	}
	return name
}

// show writes what an operator does: the operation, the types of both sides, that of the result, and the scale; or the error.
func (k *kit) show(o api.Oper, err api.Errno) string {
	if err != api.OK {
		if o != (api.Oper{}) {
			k.t.Errorf("%v beside the error %d", o, err)
		}
		return k.error(err)
	}
	s := word.Name(o.Op) + "(" + k.name(o.Left) + ", " + k.name(o.Right) + ") " + k.name(o.Result)
	if o.Scale != 0 {
		s += " x" + strconv.Itoa(o.Scale)
	}
	return s
}

// showType writes an answer that is a type, or the error.
func (k *kit) showType(id int, err api.Errno) string {
	if err != api.OK {
		if id != 0 {
			k.t.Errorf("type %d beside the error %d", id, err)
		}
		return k.error(err)
	}
	return k.name(id)
}

// error is the name of an error.
func (k *kit) error(err api.Errno) string {
	switch err {
	case api.OK:
		return "ok"
	case api.ErrNil:
		return "nil"
	case api.ErrType:
		return "type"
	case api.ErrIncomplete:
		return "incomplete"
	case api.ErrLarge:
		return "large"
	case api.ErrKind:
		return "kind"
	}
	return "error " + strconv.Itoa(int(err))
}

// integerNames are the names of the integers' kinds, from _Bool on.
func integerNames() []string {
	return []string{"_Bool", "char", "signed char", "unsigned char", "short", "unsigned short", "int", "unsigned int", "long", "unsigned long", "enum E"}
}

// signs are all of Binary's operators.
func signs() []string {
	return strings.Fields("+ - * / % & | ^ << >> == != < <= > >=")
}

// strangeSigns are no operators of Binary, nor of Unary.
func strangeSigns() []string {
	l := []string{"", " ", "+ ", " +", "++", "--", "+=", "=", "&&", "||", ",", "?", ":", "<<=", ">>=", "<>", "=>", "=<", "===", "!==", "->", ".", "[", "(", "sizeof", "add", "a", "0", "\x00", "+\x00", "\xff", "＋", "**", "//", "~~", "!!"}
	return append(l, strings.Repeat("+", 70000), strings.Repeat("<", 70000), strings.Repeat("x", 70000))
}

// strangeIds are no types of the table.
func (k *kit) strangeIds() []int {
	n := k.Len()
	return []int{-1, -2, math.MinInt, math.MinInt32, n, n + 1, 512, 1 << 20, math.MaxInt32, math.MaxInt}
}

// strangeKinds are no kinds at all.
func strangeKinds() []api.TypeKind {
	return []api.TypeKind{0, -1, -2, -8, math.MinInt32, math.MinInt, 17, 18, 100, 256 + 8, math.MaxInt32, math.MaxInt}
}

// otherKinds are kinds that are no integers.
func otherKinds() []api.TypeKind {
	return []api.TypeKind{api.TVoid, api.TPtr, api.TArray, api.TStruct, api.TUnion}
}

package tree

import (
	"slices"
	"strings"
	"testing"

	"mortise/api"
)

// least is the smallest right tree of a kind: of each row what it cannot do without.
func least(w *teller, k api.TreeKind) api.Tree {
	r := w.rows[k]
	x := api.Tree{Kind: k}
	if r.texts != nil {
		x.Text = strings.NewReplacer("NAME", "a", "ANY", "").Replace(r.texts[0])
	}
	if r.nums != nil {
		x.Num = r.nums[0]
	}
	for _, p := range places(r.sub) {
		if p.many == "" || p.many == "+" {
			x.Sub = append(x.Sub, least(w, numbers[p.kinds[0]]))
		}
	}
	return x
}

// leasts are the smallest right trees of all kinds, and a body of the other kind.
func leasts(w *teller) []api.Tree {
	var l []api.Tree
	for _, r := range rules {
		l = append(l, least(w, numbers[r.kind]))
	}
	return append(l, of(api.TrBody, node(api.TrEnum, "A", 0)))
}

// agree asks that Check answers as the table says.
func agree(t *testing.T, w *teller, x api.Tree) bool {
	t.Helper()
	ok := w.right(x, api.MaxNest)
	if got := Check(x); ok && got != api.OK || !ok && got != api.ErrTree {
		t.Errorf("Check answers %d, the table %v: %s", got, ok, brief(x))
	}
	return ok
}

func TestP4_1Leasts(t *testing.T) {
	w := newTeller()
	if len(rules) != 49 || len(w.rows) != 49 || len(numbers) != 49 {
		t.Error("the tests' table is not whole")
	}
	for _, x := range leasts(w) {
		takes(t, x)
		x.At = api.Spot{Line: -1, Col: 1 << 40, Off: 7}
		takes(t, x)
	}
}

// TestP4_1Parts tries, of each kind, each list of up to two parts, and the smallest list with a part left out, put in or exchanged, at each place.
func TestP4_1Parts(t *testing.T) {
	w := newTeller()
	all := leasts(w)
	for _, x := range all {
		had, few, right := x.Sub, 0, 0
		try := func(sub ...api.Tree) {
			x.Sub = sub
			if agree(t, w, x) {
				right++
			} else {
				few++
			}
		}
		try()
		for _, a := range all {
			try(a)
			for _, b := range all {
				try(a, b)
			}
			for i := range len(had) + 1 {
				try(slices.Insert(slices.Clone(had), i, a)...)
			}
			for i := range had {
				try(slices.Concat(had[:i], []api.Tree{a}, had[i+1:])...)
			}
		}
		for i := range had {
			try(slices.Delete(slices.Clone(had), i, i+1)...)
		}
		if few == 0 || right == 0 {
			t.Errorf("kind %d: %d lists taken, %d refused", x.Kind, right, few)
		}
	}
}

// TestP4_1TooFew and the next two tell by hand what the table asks for.
func TestP4_1TooFew(t *testing.T) {
	a := name("a")
	for _, x := range []api.Tree{
		list(), item(), item(at(a)), item(dot("x"), at(a)), of(api.TrAt),
		node(api.TrUn, "-", 0), node(api.TrPost, "++", 0), node(api.TrBi, "+", 0, a), node(api.TrSet, "=", 0, a), of(api.TrCond, a, a),
		of(api.TrIndex, a), node(api.TrMember, "m", 0), node(api.TrArrow, "m", 0), of(api.TrCast, intType()), of(api.TrCast, a), of(api.TrSizeE), of(api.TrSizeT),
		of(api.TrOffset, intType()), of(api.TrOffset), of(api.TrLit, intType()), of(api.TrLit, list(item(a))), node(api.TrTag, "", 1), node(api.TrTag, "", 3), of(api.TrBody),
		of(api.TrPtr), of(api.TrArray), of(api.TrFn), node(api.TrParam, "p", 0, base("int")), node(api.TrParam, "p", 0, hole()), of(api.TrType, base("int")), of(api.TrType, hole()),
		of(api.TrDecl), of(api.TrDecl, variable()), node(api.TrVar, "x", 0), of(api.TrFields, base("int")), of(api.TrFields), node(api.TrField, "a", 0), node(api.TrField, "", 0, hole()),
		node(api.TrFunc, "f", 0, base("int"), fn(hole())), node(api.TrFunc, "f", 0, base("int")), of(api.TsExpr), ifs(), of(api.TsIf), of(api.TsIf, semi()), of(api.TsWhile, a), of(api.TsDo, semi()),
		of(api.TsFor, semi(), semi(), semi()), of(api.TsFor),
	} {
		refuses(t, x)
	}
}

func TestP4_1TooMany(t *testing.T) {
	a, w := name("a"), newTeller()
	for _, k := range []string{"TrItem", "TrAt", "TrDot", "TrName", "TrInt", "TrChr", "TrStr", "TrUn", "TrPost", "TrBi", "TrSet", "TrCond", "TrIndex", "TrMember", "TrArrow", "TrCast", "TrSizeE", "TrSizeT", "TrLit", "TrBase", "TrAlias", "TrPtr", "TrHole", "TrParam", "TrType", "TrFunc", "TsExpr", "TsNone", "TsBreak", "TsContinue", "TsWhile", "TsDo", "TsFor"} {
		x := least(w, numbers[k])
		takes(t, x)
		for _, more := range append([]api.Tree{a}, x.Sub...) {
			y := x
			y.Sub = append(slices.Clone(x.Sub), more)
			refuses(t, y)
		}
	}
	body := of(api.TrBody, field())
	for _, x := range []api.Tree{
		node(api.TrTag, "S", 1, body, body), array(hole(), a, a), node(api.TrVar, "x", 0, hole(), a, a), node(api.TrField, "a", 0, hole(), a, a), node(api.TrEnum, "A", 0, a, a), of(api.TsReturn, a, a), ifs(semi(), semi(), semi()),
	} {
		refuses(t, x)
	}
}

func TestP4_1WrongKinds(t *testing.T) {
	a := name("a")
	for _, x := range []api.Tree{
		list(a), list(item(a), a), item(a, at(a)), item(item(a)), item(a, a), at(list(item(a))), at(semi()), un("-", list(item(a))), un("-", intType()), bi("+", a, dot("x")), of(api.TrCond, a, semi(), a),
		node(api.TrCall, "f", 0, a, list(item(a))), node(api.TrCall, "f", 0, intType()), of(api.TrCast, a, a), of(api.TrCast, intType(), list(item(a))), of(api.TrCast, base("int"), a), of(api.TrSizeT, a), of(api.TrSizeE, intType()),
		of(api.TrOffset, intType(), at(a)), of(api.TrOffset, intType(), dot("m"), a), of(api.TrOffset, dot("m"), dot("n")), of(api.TrLit, intType(), a), of(api.TrLit, intType(), item(a)),
		node(api.TrTag, "S", 1, field()), ptr(base("int")), ptr(a), array(a), array(hole(), list(item(a))), array(hole(), semi()), fn(hole(), hole()), fn(hole(), intType()), fn(param()),
		node(api.TrParam, "p", 0, hole(), base("int")), of(api.TrType, a, hole()), of(api.TrType, intType(), hole()), of(api.TrDecl, base("int"), hole()), of(api.TrDecl, a), of(api.TrDecl, base("int"), node(api.TrField, "a", 0, hole())),
		node(api.TrVar, "x", 0, hole(), item(a)), of(api.TrFields, base("int"), variable()), node(api.TrField, "a", 0, hole(), list(item(a))), node(api.TrEnum, "A", 0, list(item(a))),
		node(api.TrFunc, "f", 0, base("int"), hole(), of(api.TsBlock)), node(api.TrFunc, "f", 0, base("int"), ptr(fn(hole())), of(api.TsBlock)), node(api.TrFunc, "f", 0, base("int"), fn(hole()), semi()),
		of(api.TrUnit, variable()), of(api.TrUnit, semi()), of(api.TrUnit, decl(), a), of(api.TsBlock, a), of(api.TsBlock, function()), of(api.TsBlock, variable()), stmt(semi()), stmt(list(item(a))), stmt(decl()),
		ifs(decl()), ifs(semi(), decl()), of(api.TsWhile, a, decl()), of(api.TsWhile, semi(), a), of(api.TsDo, a, a), of(api.TsDo, semi(), semi()), of(api.TsFor, a, a, a, semi()), of(api.TsFor, semi(), stmt(a), semi(), semi()), of(api.TsFor, semi(), semi(), stmt(a), semi()),
		of(api.TsFor, semi(), semi(), semi(), a), of(api.TsFor, of(api.TsBlock), semi(), semi(), semi()), of(api.TsFor, semi(), decl(), semi(), semi()), of(api.TsFor, semi(), semi(), semi(), decl()), of(api.TsReturn, semi()),
	} {
		refuses(t, x)
	}
}

// TestP4_1NoKinds tries all numbers that are no kinds of the table, alone and as parts.
func TestP4_1NoKinds(t *testing.T) {
	w := newTeller()
	for k := api.TreeKind(-70); k < 200; k++ {
		if _, ok := w.rows[k]; ok {
			continue
		}
		x := api.Tree{Kind: k}
		refuses(t, x)
		refuses(t, of(k, name("a")))
		refuses(t, of(k, name("a"), name("b")))
		for _, y := range []api.Tree{un("-", x), node(api.TrCall, "f", 0, x), list(x), of(api.TsBlock, x), ifs(x), ptr(x), of(api.TrUnit, x), of(api.TsReturn, x), of(api.TrType, x, hole()), of(api.TrSizeT, x)} {
			refuses(t, y)
		}
	}
	for _, k := range []api.TreeKind{-1 << 63, 1<<63 - 1, -1 << 32, 1 << 32, 64 + api.TrName, 1<<32 + api.TrName, api.TrName - 64} {
		refuses(t, api.Tree{Kind: k, Text: "a"})
		refuses(t, un("-", api.Tree{Kind: k, Text: "a"}))
	}
}

func TestP4_1Texts(t *testing.T) {
	w := newTeller()
	texts := slices.Concat([]string{"", "a", "A", "_", "x_9", "9", "9a", "a b", " a", "a ", "a\n", "/**/a", "\x00", "\xff", "é", "a.b", "'a'", `"a"`, "->", "?", ":", ".", ";", "(", "[", "&&=", "+++", "!!", "~=", "===", "Int", "signed", "unsigned", "signed int", "int unsigned", "short int", "unsigned  int", "unsigned\tint", "char signed", "long long", "unsigned _Bool", "double", "TrName", strings.Repeat("n", api.MaxName), strings.Repeat("n", api.MaxName+1)}, unSigns, biSigns, setSigns, bases, strings.Fields(keywords))
	for _, x := range leasts(w) {
		for _, s := range texts {
			x.Text = s
			agree(t, w, x)
		}
	}
}

func TestP4_1Nums(t *testing.T) {
	w := newTeller()
	nums := []int{-1 << 63, -1 << 32, -1 << 31, -257, -256, -129, -128, -127, -2, -1, 0, 1, 2, 3, 4, 5, 126, 127, 128, 255, 256, 1<<31 - 1, 1 << 31, 1<<32 - 1, 1 << 32, 1<<32 + 1, 1<<32 + 2, 1<<63 - 1}
	for _, x := range leasts(w) {
		for _, n := range nums {
			x.Num, x.Type = n, 0
			agree(t, w, x)
			for _, k := range []int{1, -1, 1 << 32, -1 << 63} {
				x.Type = k
				refuses(t, x)
			}
		}
	}
}

func TestP4_1Numbers(t *testing.T) {
	for kind, most := range map[string]int{"int": 2147483647, "long": 2147483647, "unsigned int": 4294967295, "unsigned long": 4294967295} {
		for _, n := range []int{0, 1, most - 1, most} {
			takes(t, node(api.TrInt, kind, n))
		}
		for _, n := range []int{-1, most + 1, -most, 1 << 32, -1 << 63, 1<<63 - 1} {
			refuses(t, node(api.TrInt, kind, n))
		}
	}
	for _, kind := range append([]string{"", "unsigned", "char", "x", "int "}, "_Bool", "short", "unsigned short", "void") {
		refuses(t, node(api.TrInt, kind, 0))
	}
	takes(t, node(api.TrChr, "", -128))
	takes(t, node(api.TrChr, "", 127))
	refuses(t, node(api.TrChr, "", -129))
	refuses(t, node(api.TrChr, "", 128))
	refuses(t, node(api.TrChr, "a", 97))
}

func TestP4_1Names(t *testing.T) {
	fields, enums := of(api.TrBody, field()), of(api.TrBody, node(api.TrEnum, "A", 0))
	for n := 1; n <= 3; n++ {
		refuses(t, node(api.TrTag, "", n))
		takes(t, node(api.TrTag, "S", n))
		refuses(t, node(api.TrTag, "S", n, of(api.TrBody)))
		refuses(t, node(api.TrTag, "S", n, of(api.TrBody, field(), node(api.TrEnum, "A", 0))))
		refuses(t, node(api.TrTag, "S", n, of(api.TrBody, node(api.TrEnum, "A", 0), field())))
		for _, s := range []string{"", "S"} {
			if n == 3 {
				takes(t, node(api.TrTag, s, n, enums))
				refuses(t, node(api.TrTag, s, n, fields))
			} else {
				takes(t, node(api.TrTag, s, n, fields))
				refuses(t, node(api.TrTag, s, n, enums))
			}
		}
	}
	refuses(t, node(api.TrField, "", 0, hole()))
	refuses(t, of(api.TrFields, base("int"), node(api.TrField, "", 0, hole())))
	takes(t, node(api.TrField, "", 0, hole(), integer(0)))
	takes(t, node(api.TrField, "", 0, ptr(hole()), integer(0)))
	takes(t, node(api.TrField, "a", 0, hole()))
}

func TestP4_1Open(t *testing.T) {
	a := name("a")
	short := ifs(semi())
	full := ifs(semi(), semi())
	loop := func(c api.Tree) []api.Tree {
		return []api.Tree{of(api.TsWhile, a, c), of(api.TsFor, semi(), semi(), semi(), c), ifs(semi(), c)}
	}
	opened := append([]api.Tree{short, ifs(short), ifs(full), ifs(full, short)}, loop(short)...)
	shut := append([]api.Tree{semi(), full, of(api.TsBlock, short), of(api.TsDo, short, a), ifs(semi(), full), ifs(of(api.TsBlock, short), semi())}, loop(full)...)
	for _, x := range slices.Clone(opened) {
		opened = append(opened, loop(x)...)
		shut = append(shut, of(api.TsBlock, x), of(api.TsDo, x, a))
	}
	for _, x := range slices.Clone(shut) {
		shut = append(shut, loop(x)...)
	}
	for _, x := range opened {
		takes(t, x)
		takes(t, ifs(x))
		takes(t, ifs(semi(), x))
		refuses(t, ifs(x, semi()))
		refuses(t, ifs(x, x))
		refuses(t, of(api.TsBlock, ifs(x, semi())))
	}
	for _, x := range shut {
		takes(t, ifs(x))
		takes(t, ifs(x, semi()))
		takes(t, ifs(x, short))
	}
}

// chain is a tree of so many levels, each made of the one below; what stands beside it has at most a few.
func chain(levels int, last api.Tree, wrap func(x api.Tree) api.Tree) api.Tree {
	for Deep(last) < levels {
		last = wrap(last)
	}
	return last
}

func TestP4_1Levels(t *testing.T) {
	a := name("a")
	for i, wrap := range []func(x api.Tree) api.Tree{
		func(x api.Tree) api.Tree { return un("-", x) },
		func(x api.Tree) api.Tree { return bi("+", x, a) },
		func(x api.Tree) api.Tree { return bi("+", a, x) },
		func(x api.Tree) api.Tree { return node(api.TrCall, "f", 0, a, a, x, a) },
		func(x api.Tree) api.Tree { return node(api.TrCall, "f", 0, un("-", a), x) },
	} {
		takes(t, chain(api.MaxNest, a, wrap))
		refuses(t, chain(api.MaxNest+1, a, wrap))
		if n := Deep(chain(api.MaxNest, a, wrap)); n != api.MaxNest {
			t.Errorf("chain %d has %d levels", i, n)
		}
	}
	takes(t, chain(api.MaxNest, hole(), ptr))
	refuses(t, chain(api.MaxNest+1, hole(), ptr))
	takes(t, chain(api.MaxNest, semi(), func(x api.Tree) api.Tree { return of(api.TsBlock, decl(), x, semi()) }))
	refuses(t, chain(api.MaxNest+1, semi(), func(x api.Tree) api.Tree { return of(api.TsBlock, decl(), x, semi()) }))
	takes(t, chain(api.MaxNest, ifs(semi()), func(x api.Tree) api.Tree { return ifs(semi(), x) }))
	refuses(t, chain(api.MaxNest+1, ifs(semi()), func(x api.Tree) api.Tree { return ifs(semi(), x) }))
	refuses(t, ifs(chain(api.MaxNest-1, ifs(semi()), func(x api.Tree) api.Tree { return of(api.TsWhile, a, x) }), semi()))
	takes(t, ifs(chain(api.MaxNest-1, semi(), func(x api.Tree) api.Tree { return of(api.TsWhile, a, x) }), semi()))
}

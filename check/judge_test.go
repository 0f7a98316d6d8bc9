package check

import (
	"fmt"
	"testing"

	"mortise/api"
	"mortise/layout"
	"mortise/word"
)

// judge asks that a program is as P10.3 says, and that each node fits its parts as the remarks of package api say.
func judge(t testing.TB, text string, p api.Prog) {
	t.Helper()
	j := judgement{scribe: scribeOf(p)}
	for i, g := range p.Globals {
		j.global(i, g)
	}
	for i := range p.Funcs {
		j.function(i)
	}
	j.want(p.Main >= 0 && p.Main < len(p.Funcs) && p.Funcs[p.Main].Name == "main" && p.Funcs[p.Main].Params == 0 && p.Funcs[p.Main].Result == idInt, "main is function %d", p.Main)
	j.want(len(p.Globals) <= api.MaxGlobals && len(p.Funcs) <= api.MaxFuncs, "%d globals and %d functions", len(p.Globals), len(p.Funcs))
	for _, w := range j.wrong {
		t.Errorf("%.400q: %.400s", text, w)
	}
}

// judgement goes through a program, and gathers what is wrong with it.
type judgement struct {
	scribe
	f     api.Func
	old   []api.Tree // the places of the TxUpdates round a node
	loops int
	wrong []string
}

// want notes what is wrong, unless something holds.
func (j *judgement) want(holds bool, format string, args ...any) {
	if !holds {
		j.wrong = append(j.wrong, fmt.Sprintf(format, args...))
	}
}

// size is a type's size, or -1.
func (j *judgement) size(id int) int {
	n, err := layout.Size(j.types, id)
	if err != api.OK {
		return -1
	}
	return n
}

// kind is a type's kind.
func (j *judgement) kind(id int) api.TypeKind {
	row, _ := j.types.Row(id)
	return row.Kind
}

// elem is a pointer's or an array's element.
func (j *judgement) elem(id int) int {
	row, _ := j.types.Row(id)
	return row.Elem
}

// isInteger tells whether a type is a number's.
func (j *judgement) isInteger(id int) bool {
	return j.types.Scalar(id) && j.kind(id) != api.TPtr
}

// global judges a global's bytes.
func (j *judgement) global(n int, g api.Global) {
	j.want(j.size(g.Type) == len(g.Data.Bytes) && len(g.Data.Bytes) > 0, "global %d of type %d has %d bytes", n, g.Type, len(g.Data.Bytes))
	end := 0
	for _, r := range g.Data.Relocs {
		inside := r.Off >= end && r.Off+4 <= len(g.Data.Bytes) && r.Global >= 0 && r.Global < len(j.Globals)
		j.want(inside, "global %d has the relocation %v", n, r)
		if inside {
			j.want(string(g.Data.Bytes[r.Off:r.Off+4]) == "\x00\x00\x00\x00", "global %d has bytes at the relocation %v", n, r)
			j.want(r.Add >= 0 && r.Add <= len(j.Globals[r.Global].Data.Bytes), "global %d has the relocation %v", n, r)
		}
		end = r.Off + 4
	}
}

// function judges a function.
func (j *judgement) function(n int) {
	j.f = j.Funcs[n]
	j.want(j.f.Params <= len(j.f.Locals) && j.f.Params <= 7 && len(j.f.Locals) <= api.MaxLocals, "function %d has %d parameters and %d locals", n, j.f.Params, len(j.f.Locals))
	j.want(j.f.Result == idVoid || j.size(j.f.Result) > 0 && j.kind(j.f.Result) != api.TArray, "function %d gives type %d", n, j.f.Result)
	for i, id := range j.f.Locals {
		j.want(j.size(id) > 0 && (i >= j.f.Params || j.kind(id) != api.TArray), "local %d has type %d", i, id)
	}
	j.want(j.f.Body.Kind == api.TsBlock, "a body of kind %d", j.f.Body.Kind)
	j.statement(j.f.Body)
}

// bare judges what no typed node has.
func (j *judgement) bare(x api.Tree) {
	_, ok := j.types.Row(x.Type)
	j.want(ok && x.Text == "" && x.At == (api.Spot{}), "a node %d of type %d with text %q at %v", x.Kind, x.Type, x.Text, x.At)
}

// parts judges how many parts a node has, and answers whether it may be looked at.
func (j *judgement) parts(x api.Tree, least, most int) bool {
	ok := len(x.Sub) >= least && len(x.Sub) <= most
	j.want(ok, "a node of kind %d with %d parts", x.Kind, len(x.Sub))
	return ok
}

// statement judges a statement.
func (j *judgement) statement(x api.Tree) {
	j.bare(x)
	local := x.Kind == api.TsFresh || x.Kind == api.TsZero
	j.want(x.Type == 0 && (x.Num == 0 || local && x.Num > 0 && x.Num < len(j.f.Locals)), "a statement %s", j.show(x))
	switch x.Kind {
	case api.TsBlock:
		for _, s := range x.Sub {
			j.statement(s)
		}
	case api.TsExpr:
		if j.parts(x, 1, 1) {
			j.thrown(x.Sub[0])
		}
	case api.TsFresh, api.TsZero, api.TsNone:
		j.parts(x, 0, 0)
	case api.TsBreak, api.TsContinue:
		j.want(j.parts(x, 0, 0) && j.loops > 0, "%s outside of a loop", j.show(x))
	case api.TsReturn:
		if j.parts(x, 0, 1) && len(x.Sub) == 1 {
			j.want(j.value(x.Sub[0]) == j.f.Result && j.f.Result != idVoid, "%s of a function that gives %d", j.show(x), j.f.Result)
		} else {
			j.want(j.f.Result == idVoid, "%s of a function that gives %d", j.show(x), j.f.Result)
		}
	case api.TsIf:
		if j.parts(x, 2, 3) {
			j.scalar(x.Sub[0])
			for _, s := range x.Sub[1:] {
				j.statement(s)
			}
		}
	default:
		j.loop(x)
	}
}

// loop judges a loop.
func (j *judgement) loop(x api.Tree) {
	j.loops++
	switch x.Kind {
	case api.TsWhile:
		if j.parts(x, 2, 2) {
			j.scalar(x.Sub[0])
			j.statement(x.Sub[1])
		}
	case api.TsDo:
		if j.parts(x, 2, 2) {
			j.statement(x.Sub[0])
			j.scalar(x.Sub[1])
		}
	case api.TsFor:
		if j.parts(x, 4, 4) {
			k := x.Sub[0].Kind
			j.want(k == api.TsExpr || k == api.TsBlock || k == api.TsNone, "a for begins with kind %d", k)
			j.statement(x.Sub[0])
			if x.Sub[1].Kind != api.TsNone {
				j.scalar(x.Sub[1])
			}
			if x.Sub[2].Kind != api.TsNone {
				j.thrown(x.Sub[2])
			}
			j.statement(x.Sub[3])
		}
	default:
		j.want(false, "a statement of kind %d", x.Kind)
	}
	j.loops--
}

// isPlaceKind tells whether a kind is a place's.
func isPlaceKind(k api.TreeKind) bool {
	return k == api.TxLocal || k == api.TxGlobal || k == api.TxDeref || k == api.TxPart || k == api.TxLit
}

// place judges a place, and answers its type.
func (j *judgement) place(x api.Tree) int {
	j.want(isPlaceKind(x.Kind), "%s is no place", j.show(x))
	j.expr(x)
	return x.Type
}

// thrown judges what is no place, and answers its type.
func (j *judgement) thrown(x api.Tree) int {
	j.want(!isPlaceKind(x.Kind), "%s is a place", j.show(x))
	j.expr(x)
	return x.Type
}

// value judges a value, and answers its type.
func (j *judgement) value(x api.Tree) int {
	id := j.thrown(x)
	j.want(j.types.Scalar(id) || j.isRecord(id), "%s is no value", j.show(x))
	return id
}

// scalar judges a scalar value, and answers its type.
func (j *judgement) scalar(x api.Tree) int {
	id := j.value(x)
	j.want(j.types.Scalar(id), "%s is no scalar", j.show(x))
	return id
}

// isRecord tells whether a type is a struct or a union.
func (j *judgement) isRecord(id int) bool {
	return j.kind(id) == api.TStruct || j.kind(id) == api.TUnion
}

// expr judges an expression by its kind.
func (j *judgement) expr(x api.Tree) {
	j.bare(x)
	count, ok := map[api.TreeKind]int{
		api.TxConst: 0, api.TxLocal: 0, api.TxGlobal: 0, api.TxOld: 0, api.TxGet: 0, api.TxDeref: 1, api.TxPart: 1, api.TxRead: 1, api.TxAddr: 1, api.TxConv: 1, api.TxNot: 1, api.TxPut: 1, api.TxExit: 1, api.TxVoid: 1,
		api.TxBin: 2, api.TxPtrAdd: 2, api.TxDiff: 2, api.TxCmp: 2, api.TxAnd: 2, api.TxOr: 2, api.TxComma: 2, api.TxSet: 2, api.TxUpdate: 2, api.TxCond: 3, api.TxCall: len(x.Sub), api.TxLit: len(x.Sub),
	}[x.Kind]
	j.want(ok, "an expression of kind %d", x.Kind)
	if !ok || !j.parts(x, count, count) {
		return
	}
	switch {
	case isPlaceKind(x.Kind):
		j.placeNode(x)
	case x.Kind == api.TxBin || x.Kind == api.TxPtrAdd || x.Kind == api.TxDiff || x.Kind == api.TxCmp:
		j.operation(x)
	case x.Kind == api.TxSet || x.Kind == api.TxUpdate || x.Kind == api.TxOld:
		j.setting(x)
	case x.Kind == api.TxCall || x.Kind == api.TxPut || x.Kind == api.TxGet || x.Kind == api.TxExit:
		j.calling(x)
	default:
		j.other(x)
	}
}

// placeNode judges a node that is a place.
func (j *judgement) placeNode(x api.Tree) {
	says := j.show(x)
	switch x.Kind {
	case api.TxLocal:
		j.want(x.Num >= 0 && x.Num < len(j.f.Locals), "%s", says)
		j.sameOrOpen(x.Type, j.f.Locals[x.Num], says)
	case api.TxGlobal:
		j.want(x.Num >= 0 && x.Num < len(j.Globals), "%s", says)
		j.sameOrOpen(x.Type, j.Globals[x.Num].Type, says)
	case api.TxDeref:
		id := j.value(x.Sub[0])
		j.want(x.Num == 0 && j.kind(id) == api.TPtr && j.elem(id) == x.Type && x.Type != idVoid, "%s", says)
	case api.TxPart:
		id := j.place(x.Sub[0])
		off, bit, bits := x.Num/2048, x.Num/64%32, x.Num%64
		width := 8 * word.Width(j.kind(x.Type))
		j.want(bits == 0 && bit == 0 && off+j.size(x.Type) <= j.size(id) || bits > 0 && j.isInteger(x.Type) && bit+bits <= width && 8*off+bit+bits <= 8*j.size(id), "%s of %d bytes", says, j.size(id))
	case api.TxLit:
		j.want(x.Num >= j.f.Params && x.Num < len(j.f.Locals) && j.f.Locals[x.Num] == x.Type, "%s", says)
		for _, s := range x.Sub {
			j.want(s.Kind == api.TxSet, "%s", says)
			j.thrown(s)
		}
	}
}

// sameOrOpen judges the type of an object's node: within its own initialiser an array's length is not told yet.
func (j *judgement) sameOrOpen(id, object int, says string) {
	row, _ := j.types.Row(id)
	j.want(id == object || row.Kind == api.TArray && row.Len == -1 && j.kind(object) == api.TArray && row.Elem == j.elem(object), "%s: the object has type %d", says, object)
}

// operation judges a TxBin, a TxPtrAdd, a TxDiff or a TxCmp.
func (j *judgement) operation(x api.Tree) {
	a, b, says := j.scalar(x.Sub[0]), j.scalar(x.Sub[1]), j.show(x)
	op := api.BinOp(x.Num)
	switch {
	case x.Kind == api.TxPtrAdd:
		j.want(j.kind(a) == api.TPtr && x.Type == a && b == idInt && x.Num == j.size(j.elem(a)), "%s", says)
	case x.Kind == api.TxDiff:
		j.want(j.kind(a) == api.TPtr && a == b && x.Type == idInt && x.Num == j.size(j.elem(a)), "%s", says)
	case x.Kind == api.TxCmp:
		j.want(j.kind(a) == api.TPtr && a == b && x.Type == idInt && (op == api.OpEq || op == api.OpNe || op == api.OpLtU || op == api.OpLeU), "%s", says)
	case op >= api.OpEq && op <= api.OpLeU:
		signed := op == api.OpLtS || op == api.OpLeS
		j.want(a == b && a >= idInt && a <= idULong && x.Type == idInt && (op <= api.OpNe || signed == word.Signed(j.kind(a))), "%s", says)
	case op == api.OpShl || op == api.OpShrS || op == api.OpShrU:
		j.want(a == x.Type && a >= idInt && a <= idULong && b == idInt && (op == api.OpShl || (op == api.OpShrS) == word.Signed(j.kind(a))), "%s", says)
	default:
		divides := op >= api.OpDivS && op <= api.OpRemU
		signed := op == api.OpDivS || op == api.OpRemS
		j.want(op >= api.OpAdd && op <= api.OpXor && a == b && a == x.Type && a >= idInt && a <= idULong && (!divides || signed == word.Signed(j.kind(a))), "%s", says)
	}
}

// setting judges a TxSet, a TxUpdate or a TxOld.
func (j *judgement) setting(x api.Tree) {
	says := j.show(x)
	if x.Kind == api.TxOld {
		j.want(x.Num == 0 && len(j.old) > 0 && j.old[len(j.old)-1].Type == x.Type, "%s", says)
		return
	}
	id := j.place(x.Sub[0])
	if x.Kind == api.TxUpdate {
		j.want(j.types.Scalar(id) && (x.Num == 0 || x.Num == 1), "%s", says)
		j.old = append(j.old, x.Sub[0])
	} else {
		j.want(x.Num == 0 && j.size(id) > 0, "%s", says)
	}
	j.want(j.value(x.Sub[1]) == id && x.Type == id && j.kind(id) != api.TArray, "%s", says)
	if x.Kind == api.TxUpdate {
		j.old = j.old[:len(j.old)-1]
	}
}

// calling judges a call.
func (j *judgement) calling(x api.Tree) {
	says := j.show(x)
	result, params := idInt, []int{idInt}
	switch x.Kind {
	case api.TxCall:
		if x.Num < 0 || x.Num >= len(j.Funcs) {
			j.want(false, "a call of function %d", x.Num)
			return
		}
		f := j.Funcs[x.Num]
		result, params = f.Result, f.Locals[:f.Params]
	case api.TxGet:
		params = nil
	case api.TxExit:
		result = idVoid
	}
	j.want(x.Type == result && len(x.Sub) == len(params) && (x.Kind == api.TxCall || x.Num == 0), "%s", says)
	for i, a := range x.Sub {
		j.want(j.value(a) == params[min(i, len(params)-1)], "%s", says)
	}
}

// other judges the other kinds.
func (j *judgement) other(x api.Tree) {
	says := j.show(x)
	j.want(x.Num == 0 || x.Kind == api.TxConst, "%s", says)
	switch x.Kind {
	case api.TxConst:
		fits := word.Fits(j.kind(x.Type), x.Num)
		if j.kind(x.Type) == api.TPtr {
			fits = x.Num == 0
		}
		j.want(fits, "%s", says)
	case api.TxRead:
		id := j.place(x.Sub[0])
		j.want(x.Type == id && j.size(id) > 0 && j.kind(id) != api.TArray, "%s", says)
	case api.TxAddr:
		id := j.place(x.Sub[0])
		bits := x.Sub[0].Kind == api.TxPart && x.Sub[0].Num%64 != 0
		first := j.kind(id) == api.TArray && j.elem(id) == j.elem(x.Type)
		j.want(j.kind(x.Type) == api.TPtr && (first || j.elem(x.Type) == id) && !bits, "%s", says)
	case api.TxConv:
		from := j.scalar(x.Sub[0])
		j.want(from != x.Type && j.types.Scalar(x.Type) && j.isInteger(from) == j.isInteger(x.Type), "%s", says)
	case api.TxNot:
		j.scalar(x.Sub[0])
		j.want(x.Type == idInt, "%s", says)
	case api.TxAnd, api.TxOr:
		j.scalar(x.Sub[0])
		j.scalar(x.Sub[1])
		j.want(x.Type == idInt, "%s", says)
	case api.TxCond:
		j.scalar(x.Sub[0])
		a, b := j.thrown(x.Sub[1]), j.thrown(x.Sub[2])
		j.want(a == x.Type && b == x.Type, "%s", says)
	case api.TxComma:
		j.thrown(x.Sub[0])
		j.want(j.value(x.Sub[1]) == x.Type, "%s", says)
	case api.TxVoid:
		j.thrown(x.Sub[0])
		j.want(x.Type == idVoid, "%s", says)
	}
}

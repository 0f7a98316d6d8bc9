package tac

import (
	"fmt"
	"math"
	"math/rand"
	"reflect"
	"testing"

	"mortise/api"
)

// grower makes programs by chance.
type grower struct{ *rand.Rand }

// one is one of some things.
func one[T any](g grower, list ...T) T { return list[g.Intn(len(list))] }

// upTo is a number from 0 to n, which is often one of both ends.
func (g grower) upTo(n int) int {
	switch g.Intn(4) {
	case 0:
		return 0
	case 1:
		return n
	}
	return g.Intn(n + 1)
}

// size is a size of an object.
func (g grower) size() int {
	if g.Intn(20) == 0 {
		return one(g, 16383, 16384, 1000)
	}
	return 1 + g.Intn(20)
}

// program grows a program that may be.
func (g grower) program() api.TacProg {
	var p api.TacProg
	for i := range g.Intn(4) {
		p.Objects = append(p.Objects, empty(one(g, "x", "#7", fmt.Sprintf("g%d", i)), g.size(), one(g, 1, 2, 4, 4)))
	}
	for i := range p.Objects {
		g.data(p.Objects, &p.Objects[i])
	}
	for i := range 1 + g.Intn(4) {
		f := api.TacFunc{Name: fmt.Sprintf("f%d", i), Params: g.upTo(8), Gives: g.Intn(2) == 0}
		f.Temps = f.Params + one(g, 0, 1, 2, 3, 4096-f.Params)
		for range g.Intn(4) {
			f.Slots = append(f.Slots, api.Slot{Size: g.size(), Align: one(g, 1, 2, 4)})
		}
		p.Funcs = append(p.Funcs, f)
	}
	p.Main = g.Intn(len(p.Funcs))
	p.Funcs[p.Main].Params = 0
	for i := range p.Funcs {
		g.code(p, &p.Funcs[i])
	}
	return p
}

// data fills an object's bytes, and lays relocations where it may.
func (g grower) data(all []api.TacObject, o *api.TacObject) {
	for i := range g.upTo(o.Size) {
		o.Data.Bytes[i] = one(g, 0, 0, 1, 255, byte(g.Intn(256)))
	}
	for off := 0; o.Align == 4 && off+4 <= min(o.Size, 64); off += 4 {
		if g.Intn(3) == 0 {
			clear(o.Data.Bytes[off : off+4])
			n := g.Intn(len(all))
			o.Data.Relocs = append(o.Data.Relocs, api.Reloc{Off: off, Global: n, Add: g.upTo(all[n].Size)})
		}
	}
}

// code fills a function's code.
func (g grower) code(p api.TacProg, f *api.TacFunc) {
	count := 1 + g.Intn(12)
	for len(f.Code) < count-1 {
		x := api.Ins{Op: api.TacOp(1 + g.Intn(14)), D: -1}
		if g.fill(p, *f, &x, count) {
			f.Code = append(f.Code, x)
		}
	}
	last := api.Ins{Op: one(g, api.TacRet, api.TacJump, api.TacExit), D: -1}
	g.fill(p, *f, &last, count)
	f.Code = append(f.Code, last)
}

// operand is a temporary, if there is one, or a number.
func (g grower) operand(f api.TacFunc) api.Arg {
	if f.Temps > 0 && g.Intn(3) > 0 {
		return tmp(uint32(g.upTo(f.Temps - 1)))
	}
	return num(one(g, 0, 1, 9, 10, 1<<31, math.MaxUint32, g.Uint32()))
}

// fill gives an instruction what its row names; false, if there is nothing that it may be.
func (g grower) fill(p api.TacProg, f api.TacFunc, x *api.Ins, count int) bool {
	switch x.Op {
	case api.TacMov, api.TacBin, api.TacSlot, api.TacGlobal, api.TacLoad, api.TacGet:
		if f.Temps == 0 {
			return false
		}
		x.D = g.upTo(f.Temps - 1)
	}
	switch x.Op {
	case api.TacBin:
		x.Bin, x.A, x.B = api.BinOp(1+g.Intn(19)), g.operand(f), g.operand(f)
	case api.TacSlot:
		if len(f.Slots) == 0 {
			return false
		}
		x.N = g.Intn(len(f.Slots))
		x.Off = g.upTo(f.Slots[x.N].Size)
	case api.TacGlobal:
		if len(p.Objects) == 0 {
			return false
		}
		x.N = g.Intn(len(p.Objects))
		x.Off = g.upTo(p.Objects[x.N].Size)
	case api.TacLoad:
		x.A, x.Off, x.Width = g.operand(f), g.upTo(32768)-16384, one(g, 1, 2, 4)
		x.Signed = x.Width < 4 && g.Intn(2) == 0
	case api.TacStore:
		x.A, x.B, x.Off, x.Width = g.operand(f), g.operand(f), g.upTo(32768)-16384, one(g, 1, 2, 4)
	case api.TacCopy:
		x.A, x.B, x.Width = g.operand(f), g.operand(f), one(g, 1, 2, 4)
		x.Off = x.Width * (1 + g.upTo(16384/x.Width-1))
	case api.TacCall:
		g.call(p, f, x)
	case api.TacRet:
		if f.Gives {
			x.A = g.operand(f)
		}
	case api.TacJump:
		x.N = g.upTo(count - 1)
	case api.TacBranch:
		x.A, x.N = g.operand(f), g.upTo(count-1)
	case api.TacMov, api.TacPut, api.TacExit:
		x.A = g.operand(f)
	}
	return true
}

// call makes an instruction a call.
func (g grower) call(p api.TacProg, f api.TacFunc, x *api.Ins) {
	x.N = g.Intn(len(p.Funcs))
	for range p.Funcs[x.N].Params {
		x.Args = append(x.Args, g.operand(f))
	}
	if p.Funcs[x.N].Gives && f.Temps > 0 && g.Intn(3) > 0 {
		x.D = g.upTo(f.Temps - 1)
	}
}

// spoil turns one thing somewhere within a value.
func (g grower) spoil(v reflect.Value) {
	switch v.Kind() {
	case reflect.Struct:
		g.spoil(v.Field(g.Intn(v.NumField())))
	case reflect.Slice:
		g.spoilList(v)
	case reflect.String:
		v.SetString(one(g, append(goodNames(), append(badNames(), "f0", "f1", "f2")...)...))
	case reflect.Bool:
		v.SetBool(!v.Bool())
	case reflect.Int:
		v.SetInt(one(g, v.Int()-1, v.Int()+1, v.Int()+4, -v.Int(), int64(one(g, strangeNumbers()...))))
	case reflect.Uint8, reflect.Uint32:
		v.SetUint(one(g, v.Uint()-1, v.Uint()+1, uint64(uint32(one(g, strangeNumbers()...)))) & (1<<v.Type().Bits() - 1))
	}
}

// spoilList turns an element of a list, or takes one out, puts one in twice, or makes two change places.
func (g grower) spoilList(v reflect.Value) {
	n := v.Len()
	if n == 0 {
		v.Set(reflect.Append(v, reflect.Zero(v.Type().Elem())))
		return
	}
	i := g.Intn(n)
	switch g.Intn(12) {
	case 0:
		v.Set(reflect.AppendSlice(v.Slice(0, i), v.Slice(i+1, n)))
	case 1:
		v.Set(reflect.Append(v, v.Index(i)))
	case 2:
		reflect.Swapper(v.Interface())(i, n-1)
	default:
		g.spoil(v.Index(i))
	}
}

// TestP13_1Grown: grown programs may be, and one thing turned in them makes of them what the second telling says.
func TestP13_1Grown(t *testing.T) {
	g := grower{rand.New(rand.NewSource(13))}
	good, bad := 0, 0
	for range 1500 {
		p := g.program()
		if !judged(p) {
			t.Fatalf("a grown program may not be: %v", p)
		}
		verdict(t, p, true, p)
		for range 40 {
			q := copied(p)
			for range 1 + g.Intn(2) {
				g.spoil(reflect.ValueOf(&q).Elem())
			}
			ok := judged(q)
			verdict(t, q, ok, q)
			if ok {
				good++
			} else {
				bad++
			}
		}
	}
	if good < 3000 || bad < 30000 {
		t.Errorf("%d spoilt programs may be, %d may not: too few", good, bad)
	}
}

package sroa

import (
	"reflect"
	"slices"
	"testing"
	"unsafe"

	"mortise/api"
)

// span is where a list lies, with what room is behind it.
type span struct{ from, to uintptr }

// spanOf is where a list lies.
func spanOf[T any](l []T) span {
	var one T
	from := uintptr(unsafe.Pointer(unsafe.SliceData(l)))
	return span{from, from + uintptr(cap(l))*unsafe.Sizeof(one)}
}

// spans has where all lists of a program lie that have room.
func spans(p api.TacProg) []span {
	l := []span{spanOf(p.Objects), spanOf(p.Funcs)}
	for _, o := range p.Objects {
		l = append(l, spanOf(o.Data.Bytes), spanOf(o.Data.Relocs))
	}
	for _, f := range p.Funcs {
		l = append(l, spanOf(f.Slots), spanOf(f.Code))
		for _, x := range f.Code {
			l = append(l, spanOf(x.Args))
		}
	}
	return slices.DeleteFunc(l, func(s span) bool { return s.from == s.to })
}

// copied is a program in new memory.
func copied(p api.TacProg) api.TacProg {
	p.Objects = slices.Clone(p.Objects)
	for i := range p.Objects {
		d := &p.Objects[i].Data
		d.Bytes, d.Relocs = slices.Clone(d.Bytes), slices.Clone(d.Relocs)
	}
	p.Funcs = slices.Clone(p.Funcs)
	for i := range p.Funcs {
		f := &p.Funcs[i]
		f.Slots, f.Code = slices.Clone(f.Slots), slices.Clone(f.Code)
		for k := range f.Code {
			f.Code[k].Args = slices.Clone(f.Code[k].Args)
		}
	}
	return p
}

// TestP17_2Kept: what is handed in is not changed, answers are new memory of which no two lists share any, and the same calls answer the same.
func TestP17_2Kept(t *testing.T) {
	eachGrown(17, 200, func(g *grower, p api.TacProg) {
		before := copied(p)
		first, again := ran(t, p), ran(t, p)
		if !reflect.DeepEqual(first, again) {
			t.Fatalf("%s\nand then %s", shown(first), shown(again))
		}
		for i := range p.Funcs {
			if a, b := splits(t, p, i), splits(t, p, i); !slices.Equal(a, b) || len(a) > 0 && spanOf(a) == spanOf(b) {
				t.Fatalf("%v and then %v of function %d of %s", a, b, i, shown(p))
			}
		}
		if !reflect.DeepEqual(copied(p), before) {
			t.Fatalf("changed: %s", shown(before))
		}
		all := slices.Concat(spans(p), spans(first), spans(again))
		slices.SortFunc(all, func(a, b span) int { return int(a.from) - int(b.from) })
		for i := 1; i < len(all); i++ {
			if all[i].from < all[i-1].to {
				t.Fatalf("two lists share memory: %s", shown(p))
			}
		}
	})
}

// TestP17_2NoSplits: a program of which nothing splits is answered in new memory, too, its objects' data and its calls' arguments.
func TestP17_2NoSplits(t *testing.T) {
	p := program(t, "object o 8 4;data 0102;reloc 4 0 8;func f 2 2;ret;func main 0 1;slot 4 4;call - 0 #1 t0;ret;main 1")
	q := ran(t, p)
	if !reflect.DeepEqual(copied(p), copied(q)) {
		t.Errorf("%s becomes %s", shown(p), shown(q))
	}
	q.Objects[0].Data.Bytes[0], q.Objects[0].Data.Relocs[0].Add, q.Objects[0].Name = 9, 1, "x"
	q.Funcs[1].Slots[0].Size, q.Funcs[1].Code[0].Args[0].N, q.Funcs[1].Code[0].N, q.Funcs[1].Name = 1, 9, 9, "y"
	if r := ran(t, p); !reflect.DeepEqual(copied(p), copied(r)) {
		t.Errorf("what is done to an answer is done to the program: %s", shown(p))
	}
}

package tac

import (
	"math"
	"strconv"
	"strings"
	"testing"

	"mortise/api"
)

// holding is a program with these objects.
func holding(objects ...api.TacObject) api.TacProg {
	return api.TacProg{Objects: objects, Funcs: []api.TacFunc{{Name: "main", Code: []api.Ins{exit(num(0))}}}}
}

// goodNames are tags.
func goodNames() []string {
	return []string{"a", "Z", "_", "__", "a1", "_9", "main", "int", "g0", "object", "data", "func", "t0", "#0", "#1", "#007", "#123456789", strings.Repeat("n", api.MaxName), strings.Repeat("_", 62) + "9"}
}

// badNames are no tags.
func badNames() []string {
	return []string{"", " ", "1", "9a", "a b", "a ", " a", "a\n", "\n", "a-b", "-", "a.b", "#", "##1", "#a", "#1a", "#1234567890", "a#1", "# 1", "#-1", "ä", "aä", "\xff", "a\x00", "\x00", "t0,", strings.Repeat("n", api.MaxName+1), strings.Repeat("n", 1000)}
}

// TestP13_1ObjectNames asks which names objects may have.
func TestP13_1ObjectNames(t *testing.T) {
	for _, name := range goodNames() {
		verdict(t, holding(empty(name, 1, 1)), true, "object", name)
		verdict(t, holding(empty("x", 1, 1), empty(name, 1, 1)), true, "second object", name)
	}
	for _, name := range badNames() {
		verdict(t, holding(empty(name, 1, 1)), false, "object", name)
		verdict(t, holding(empty("x", 1, 1), empty(name, 1, 1)), false, "second object", name)
	}
	verdict(t, holding(empty("x", 1, 1), empty("x", 2, 2), empty("x", 1, 1)), true, "three objects of one name")
	verdict(t, holding(empty("main", 1, 1)), true, "an object of a function's name")
}

// TestP13_1ManyObjects asks how many objects there may be.
func TestP13_1ManyObjects(t *testing.T) {
	var list []api.TacObject
	verdict(t, holding(list...), true, "no object")
	for i := range api.MaxGlobals {
		list = append(list, empty("g"+strconv.Itoa(i), 1, 1))
	}
	verdict(t, holding(list[:255]...), true, "255 objects")
	verdict(t, holding(list...), true, "256 objects")
	verdict(t, holding(append(list, empty("more", 1, 1))...), false, "257 objects")
	verdict(t, holding(append(list, list...)...), false, "512 objects")
}

// TestP13_1ObjectSizes asks for sizes, alignments and how many bytes there are.
func TestP13_1ObjectSizes(t *testing.T) {
	for _, size := range []int{1, 2, 3, 4, 5, 255, 256, 16383, 16384} {
		verdict(t, holding(empty("x", size, 1)), true, "size", size)
		for _, count := range []int{0, size - 1, size + 1, 2 * size, size + 256} {
			o := empty("x", size, 1)
			o.Data.Bytes = make([]byte, count)
			verdict(t, holding(o), false, "size", size, "with bytes", count)
		}
	}
	for _, size := range []int{0, -1, 16385, 16388, 32768} {
		verdict(t, holding(empty("x", max(size, 0), 1)), false, "size", size)
		o := empty("x", 1, 1)
		o.Size = size
		verdict(t, holding(o), false, "size", size, "of a byte")
	}
	for _, n := range far() {
		o := empty("x", 4, 4)
		o.Size = n
		verdict(t, holding(o), false, "size", n)
		o = empty("x", 4, n)
		verdict(t, holding(o), false, "align", n)
	}
	for align := -5; align <= 20; align++ {
		for _, size := range []int{1, 2, 3, 4, 8} {
			verdict(t, holding(empty("x", size, align)), align == 1 || align == 2 || align == 4, "size", size, "align", align)
		}
	}
	full := empty("x", 3, 4)
	full.Data.Bytes = []byte{255, 0, 255}
	verdict(t, holding(full), true, "bytes that are not 0")
	full.Data.Bytes = append(make([]byte, 0, 99), 1, 2, 3)
	verdict(t, holding(full), true, "bytes with room behind them")
}

// pointing is an object with these relocations, ahead of one of 6 bytes and one of 16384.
func pointing(size, align int, relocs ...api.Reloc) api.TacProg {
	o := empty("x", size, align)
	o.Data.Relocs = relocs
	return holding(o, empty("y", 6, 1), empty("z", 16384, 2))
}

// at is a relocation to the second object.
func at(off int) api.Reloc { return api.Reloc{Off: off, Global: 1} }

// TestP13_1RelocPlaces asks where relocations may be.
func TestP13_1RelocPlaces(t *testing.T) {
	for size := 1; size <= 21; size++ {
		for off := -9; off <= 25; off++ {
			verdict(t, pointing(size, 4, at(off)), off >= 0 && off%4 == 0 && off+4 <= size, "size", size, "reloc at", off)
			verdict(t, pointing(size, 2, at(off)), false, "align 2, size", size, "reloc at", off)
			verdict(t, pointing(size, 1, at(off)), false, "align 1, size", size, "reloc at", off)
		}
	}
	for _, off := range append(far(), 16384, 16383, 16382, 16381) {
		verdict(t, pointing(16384, 4, at(off)), false, "reloc at", off)
	}
	verdict(t, pointing(16384, 4, at(16380)), true, "reloc at the end")
	verdict(t, pointing(16383, 4, at(16380)), false, "reloc at the end, a byte too few")
	verdict(t, pointing(16383, 4, at(16376)), true, "reloc nearly at the end")
}

// TestP13_1RelocOrder asks that relocations rise, 4 apart.
func TestP13_1RelocOrder(t *testing.T) {
	for a := 0; a <= 12; a++ {
		for b := 0; b <= 12; b++ {
			verdict(t, pointing(16, 4, at(a), at(b)), a%4 == 0 && b%4 == 0 && a < b, "relocs at", a, b)
		}
	}
	verdict(t, pointing(16, 4, at(0), at(4), at(8), at(12)), true, "four relocs")
	verdict(t, pointing(16, 4, at(0), at(8), at(4), at(12)), false, "the third falls")
	verdict(t, pointing(16, 4, at(0), at(4), at(4), at(12)), false, "the third again")
	verdict(t, pointing(16, 4, at(4), at(8), at(0)), false, "the last falls to the first place")
	verdict(t, pointing(16, 4, at(0), at(4), at(8), at(12), at(16)), false, "one behind the end")
	verdict(t, pointing(16, 4, at(0), at(3)), false, "3 apart")
	var all []api.Reloc
	for off := 0; off < 16384; off += 4 {
		all = append(all, at(off))
	}
	verdict(t, pointing(16384, 4, all...), true, "as many as fit")
	verdict(t, pointing(16384, 4, append(all, at(16384))...), false, "one more")
}

// TestP13_1RelocTargets asks to what relocations may point.
func TestP13_1RelocTargets(t *testing.T) {
	sizes := []int{8, 6, 16384}
	for global, size := range sizes {
		for _, add := range []int{0, 1, 5, 6, 7, 8, 9, 16383, 16384, 16385, -1, -6, 1 << 32, 1<<32 + 1, math.MaxInt, math.MinInt} {
			verdict(t, pointing(8, 4, api.Reloc{Off: 4, Global: global, Add: add}), 0 <= add && add <= size, "reloc to", global, add)
		}
	}
	for _, global := range append(far(), -1, 3, 4, 255, 256) {
		verdict(t, pointing(8, 4, api.Reloc{Global: global}), false, "reloc to", global)
	}
	wrong := pointing(8, 4, api.Reloc{Global: 1, Add: 7})
	wrong.Objects[1].Size = 100
	verdict(t, wrong, false, "reloc to an object that may not be")
}

// TestP13_1RelocBytes asks that the bytes at a relocation are 0, and those beside it are free.
func TestP13_1RelocBytes(t *testing.T) {
	for i := range 12 {
		for _, v := range []byte{1, 128, 255} {
			p := pointing(12, 4, at(4))
			p.Objects[0].Data.Bytes[i] = v
			verdict(t, p, i < 4 || i >= 8, "byte", i, "is", v)
			q := pointing(12, 4, at(0), at(8))
			q.Objects[0].Data.Bytes[i] = v
			verdict(t, q, i >= 4 && i < 8, "byte", i, "between is", v)
		}
	}
}

// TestP13_1EachObject asks that every object is looked at.
func TestP13_1EachObject(t *testing.T) {
	for i := range 5 {
		list := []api.TacObject{empty("a", 4, 4), empty("b", 4, 4), empty("c", 4, 4), empty("d", 4, 4), empty("e", 4, 4)}
		list[i].Data.Relocs = []api.Reloc{{Global: 4, Add: 4}}
		verdict(t, holding(list...), true, "good object", i)
		list[i].Data.Relocs[0].Add = 5
		verdict(t, holding(list...), false, "bad object", i)
	}
}

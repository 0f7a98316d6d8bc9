package tacrun

import (
	"fmt"
	"strings"
	"testing"

	"mortise/api"
)

// ofObjects is the sample of a main behind objects.
func ofObjects(objects, code string, stop api.Stop, with int) sample {
	return sample{text: inMain(objects, code), stop: stop, code: with}
}

// TestP14_1Data: objects have their bytes at first, and 0 where nothing is told.
func TestP14_1Data(t *testing.T) {
	const two = "object a 8 4; data 0102038405; object b 3 2; data ff80"
	for i, want := range []int{1, 2, 3, 0x84, 5, 0, 0, 0} {
		runs(t, ofObjects(two, fmt.Sprintf("glob t0 0 %d; load t1 t0 0 1; ret t1", i), api.StopExit, want))
		runs(t, ofObjects(two, fmt.Sprintf("glob t0 0 0; load t1 t0 %d 1; ret t1", i), api.StopExit, want))
	}
	for i, want := range []int{0xff, 0x80, 0} {
		runs(t, ofObjects(two, fmt.Sprintf("glob t0 1 0; load t1 t0 %d 1; ret t1", i), api.StopExit, want))
	}
	runs(t,
		ofObjects(two, "glob t0 0 0; load t1 t0 0 4; ret t1", api.StopExit, 0x84030201-1<<32),
		ofObjects(two, "glob t0 0 0; load t1 t0 4 4; ret t1", api.StopExit, 5),
		ofObjects(two, "glob t0 0 8; load t1 t0 -6 2; ret t1", api.StopExit, 0x8403),
		ofObjects(two, "glob t0 1 0; load t1 t0 0 2; ret t1", api.StopExit, 0x80ff),
		ofObjects(two, "glob t0 1 0; load t1 t0 1 2; ret t1", api.StopUndef, 0),
		ofObjects(two, "glob t0 1 0; load t1 t0 0 4; ret t1", api.StopUndef, 0),
		ofObjects("object a 4 1; data 01020304", "glob t0 0 0; load t1 t0 0 2; ret t1", api.StopUndef, 0),
		ofObjects("object a 4 2; data 01020304", "glob t0 0 0; load t1 t0 0 4; ret t1", api.StopUndef, 0),
		ofObjects("object a 4 2; data 01020304", "glob t0 0 0; load t1 t0 2 2; ret t1", api.StopExit, 0x0403),
		ofObjects("object a 1 1; object b 1 1; data 07; object c 1 1; data 08", "glob t0 1 0; load t1 t0 0 1; glob t2 2 0; load t3 t2 0 1; mul t1 t1 #10; add t1 t1 t3; ret t1", api.StopExit, 78),
	)
}

// TestP14_1Large: an object may have MaxSize bytes, of which all are there.
func TestP14_1Large(t *testing.T) {
	data := strings.Repeat("00", 16380) + "01020304"
	large := "object a 16384 4; data " + data
	runs(t,
		ofObjects(large, "glob t0 0 16384; load t1 t0 -4 4; ret t1", api.StopExit, 0x04030201),
		ofObjects(large, "glob t0 0 0; load t1 t0 16380 4; ret t1", api.StopExit, 0x04030201),
		ofObjects(large, "glob t0 0 0; load t1 t0 16376 4; ret t1", api.StopExit, 0),
		ofObjects(large, "glob t0 0 0; load t1 t0 16384 1; ret t1", api.StopUndef, 0),
		ofObjects(large, "glob t0 0 16384; load t1 t0 -16384 4; ret t1", api.StopExit, 0),
	)
}

// TestP14_1Relocs: a relocation is a pointer to Add in its object's block, at each Add that may be.
func TestP14_1Relocs(t *testing.T) {
	for add := range 13 {
		own := fmt.Sprintf("object a 12 4; data 0a0b0c0d; reloc 8 0 %d", add)
		other := fmt.Sprintf("object z 4 4; object a 12 4; data 63; reloc 8 2 %d; object b 12 4; data 0a0b0c0d", add)
		ahead := fmt.Sprintf("object b 12 4; data 0a0b0c0d; object z 8 4; reloc 0 0 3; reloc 4 0 %d", add)
		for i, objects := range []string{own, other, ahead} {
			get := []string{"glob t0 0 0; glob t1 0 0; load t2 t0 8 4", "glob t0 1 0; glob t1 2 0; load t2 t0 8 4", "glob t0 1 0; glob t1 0 0; load t2 t0 4 4"}[i]
			want := sample{text: inMain(objects, get+"; load t3 t2 0 1; ret t3"), stop: api.StopExit}
			if add < 4 {
				want.code = 10 + add
			}
			if add == 12 || i == 0 && add >= 8 {
				want.stop = api.StopUndef // behind the end, or a part of the pointer itself
			}
			runs(t, want,
				ofObjects(objects, get+"; sub t3 t2 t1; ret t3", api.StopExit, add),
				ofObjects(objects, get+"; ret t2", api.StopUndef, 0),
				ofObjects(objects, get+"; branch t2 5; ret #3; ret #4", api.StopExit, 4),
			)
		}
	}
	runs(t,
		ofObjects("object a 4 4; reloc 0 1 0; object b 4 4; reloc 0 0 4", "glob t0 0 0; load t1 t0 0 4; load t2 t1 0 4; sub t3 t2 t0; ret t3", api.StopExit, 4),
		ofObjects("object a 4 4; reloc 0 0 0", "glob t0 0 0; load t1 t0 0 4; load t1 t1 0 4; load t1 t1 0 4; eq t2 t0 t1; ret t2", api.StopExit, 1),
		ofObjects("object a 4 4; reloc 0 0 0", "glob t0 0 0; load t1 t0 0 1; ret t1", api.StopUndef, 0),
		ofObjects("object a 4 4; reloc 0 0 0", "glob t0 0 0; load t1 t0 2 2; ret t1", api.StopUndef, 0),
		ofObjects("object a 8 4; data 05; reloc 4 0 0", "glob t0 0 0; store t0 4 #9 4; load t1 t0 4 4; load t2 t0 0 4; add t1 t1 t2; ret t1", api.StopExit, 14),
		ofObjects("object a 8 4; reloc 0 0 8; reloc 4 0 0", "glob t0 0 0; load t1 t0 0 4; load t2 t0 4 4; sub t1 t1 t2; ret t1", api.StopExit, 8),
		ofObjects("object b 2 1; data 0905; object a 4 4; reloc 0 0 1", "glob t0 1 0; load t1 t0 0 4; load t2 t1 0 1; ret t2", api.StopExit, 5),
	)
}

// TestP14_1ManyObjects: each of MaxGlobals objects is its own.
func TestP14_1ManyObjects(t *testing.T) {
	var lines []string
	for i := range api.MaxGlobals {
		lines = append(lines, fmt.Sprintf("object x 4 4; data %02x%02x", i, 255-i/2*2))
	}
	objects := strings.Join(lines, "; ")
	for _, i := range []int{1, 2, 127, 128, 254, 255} {
		runs(t, ofObjects(objects, fmt.Sprintf("glob t0 %d 0; load t1 t0 0 1; ret t1", i), api.StopExit, i))
	}
	runs(t, ofObjects(objects, "glob t0 255 0; glob t1 254 0; store t1 0 #7 4; load t2 t0 0 1; load t3 t1 0 1; mul t2 t2 #10; add t2 t2 t3; ret t2", api.StopExit, 2557))
}

// TestP14_1OwnBlocks: objects know nothing of one another: where one ends none begins.
func TestP14_1OwnBlocks(t *testing.T) {
	const two = "object a 4 4; data 01; object b 4 4; data 02"
	runs(t,
		ofObjects(two, "glob t0 0 0; load t1 t0 4 4; ret t1", api.StopUndef, 0),
		ofObjects(two, "glob t0 1 0; load t1 t0 -4 4; ret t1", api.StopUndef, 0),
		ofObjects(two, "glob t0 0 0; glob t1 1 0; sub t2 t1 t0; ret t2", api.StopUndef, 0),
		ofObjects(two, "glob t0 0 0; glob t1 1 0; eq t2 t1 t0; ret t2", api.StopExit, 0),
		ofObjects(two, "glob t0 0 4; glob t1 1 0; eq t2 t1 t0; ret t2", api.StopUndef, 0),
		ofObjects(two, "glob t0 0 0; glob t1 1 0; ne t2 t1 t0; ret t2", api.StopExit, 1),
		ofObjects(two, "glob t0 0 0; glob t1 1 0; lts t2 t1 t0; ret t2", api.StopUndef, 0),
		ofObjects(two, "glob t0 0 0; store t0 0 #9 4; glob t1 1 0; load t2 t1 0 4; ret t2", api.StopExit, 2),
		ofObjects(two, "slot 4 4; addr t0 0 0; glob t1 0 0; eq t2 t0 t1; store t0 0 #9 4; load t3 t1 0 4; mul t2 t2 #10; add t2 t2 t3; ret t2", api.StopExit, 1),
	)
}

// TestP14_1Storage: objects live through all calls, and keep what was stored.
func TestP14_1Storage(t *testing.T) {
	runs(t,
		sample{text: lined("object n 4 4; data 05; func up 0 2; glob t0 0 0; load t1 t0 0 4; add t1 t1 #1; store t0 0 t1 4; ret; func main 0 2 gives; call - 0; call - 0; call - 0; glob t0 0 0; load t1 t0 0 4; ret t1; main 1"), stop: api.StopExit, code: 8},
		sample{text: lined("object n 4 4; func at 0 1 gives; glob t0 0 4; ret t0; func main 0 2 gives; call t0 0; store t0 -4 #8 4; call t1 0; load t1 t1 -4 4; ret t1; main 1"), stop: api.StopExit, code: 8},
	)
}

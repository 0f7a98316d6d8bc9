package tacrun

import (
	"fmt"
	"strings"
	"testing"

	"mortise/api"
	"mortise/word"
)

// bytesAhead is what the object of these tests has at first.
const bytesAhead = "object x 12 %d; data ff7f800102030485"

// byteAt is a byte of it.
func byteAt(i int) uint32 {
	if i < 8 {
		return uint32([]byte{0xff, 0x7f, 0x80, 1, 2, 3, 4, 0x85}[i])
	}
	return 0
}

// numberAt is what is loaded there, as the chapters say.
func numberAt(i, width int, signed bool) int {
	v := uint32(0)
	for k := range width {
		v |= byteAt(i+k) << (8 * k)
	}
	kinds := map[int]api.TypeKind{1: api.TUChar, 2: api.TUShort, 4: api.TUInt}
	if signed {
		kinds = map[int]api.TypeKind{1: api.TSChar, 2: api.TShort}
	}
	return word.Int(word.Convert(kinds[width], v))
}

// TestP14_2Load: loads of each width, signed and not, from each place, moved before the block and behind it, by each align.
func TestP14_2Load(t *testing.T) {
	for _, align := range []int{1, 2, 4} {
		objects := fmt.Sprintf(bytesAhead, align)
		for first := range 13 {
			for by := -14; by <= 14; by++ {
				for _, load := range []struct {
					width  int
					signed bool
				}{{1, false}, {1, true}, {2, false}, {2, true}, {4, false}} {
					place, text := first+by, fmt.Sprintf("glob t0 0 %d; load t1 t0 %d %d", first, by, load.width)
					if load.signed {
						text += " signed"
					}
					text = inMain(objects, text+"; ret t1")
					want := api.Outcome{Stop: api.StopUndef, Steps: 2}
					if place >= 0 && place+load.width <= 12 && place%load.width == 0 && align >= load.width {
						want = api.Outcome{Stop: api.StopExit, Code: numberAt(place, load.width, load.signed), Steps: 3}
					}
					if o := ran(t, text, "", enough); !same(o, want) {
						t.Fatalf("%s%s; want %s", text, shown(o), shown(want))
					}
				}
			}
		}
	}
}

// TestP14_2Store: stores of each width to each place likewise; no other byte is changed.
func TestP14_2Store(t *testing.T) {
	for _, align := range []int{1, 2, 4} {
		objects := fmt.Sprintf(bytesAhead, align)
		for first := range 13 {
			for by := -14; by <= 14; by++ {
				for _, width := range []int{1, 2, 4} {
					place := first + by
					text := fmt.Sprintf("glob t0 0 %d; store t0 %d #2882400001 %d; glob t0 0 0; mov t2 #12; load t1 t0 0 1; put t1; add t0 t0 #1; sub t2 t2 #1; branch t2 4; ret #1", first, by, width)
					want := sample{text: inMain(objects, text), stop: api.StopUndef}
					if place >= 0 && place+width <= 12 && place%width == 0 && align >= width {
						want.stop, want.code = api.StopExit, 1
						for i := range 12 {
							b := byteAt(i)
							if i >= place && i < place+width {
								b = 2882400001 >> (8 * (i - place))
							}
							want.out += string([]byte{byte(b)})
						}
					}
					if o := ran(t, want.text, "", enough); o.Stop != want.stop || o.Code != want.code || string(o.Out) != want.out {
						t.Fatalf("%s%s; want stop %d, out %q", want.text, shown(o), want.stop, want.out)
					}
				}
			}
		}
	}
}

// TestP14_2Moved: what is loaded from and stored to is a pointer, good where it is and where it is moved to.
func TestP14_2Moved(t *testing.T) {
	const object = "object x 8 4; data 0102030405060708"
	of := func(code string, stop api.Stop, with int) sample {
		return sample{text: inMain(object, code), stop: stop, code: with}
	}
	runs(t,
		of("load t0 #0 0 1; ret t0", api.StopUndef, 0),
		of("load t0 #4096 0 4; ret t0", api.StopUndef, 0),
		of("mov t1 #1; load t0 t1 0 4; ret t0", api.StopUndef, 0),
		of("store #0 0 #1 1; ret #0", api.StopUndef, 0),
		of("store #4096 0 #1 4; ret #0", api.StopUndef, 0),
		of("mov t1 #1; store t1 -1 #1 4; ret #0", api.StopUndef, 0),
		of("copy #0 #0 4 4; ret #0", api.StopUndef, 0),
		of("glob t0 0 0; copy t0 #1 4 4; ret #0", api.StopUndef, 0),
		of("glob t0 0 0; copy #1 t0 4 4; ret #0", api.StopUndef, 0),
		of("glob t0 0 0; mov t1 #4; copy t1 t0 4 4; ret #0", api.StopUndef, 0),
		of("glob t0 0 0; load t1 t0 16384 4; ret t1", api.StopUndef, 0),
		of("glob t0 0 0; load t1 t0 -16384 4; ret t1", api.StopUndef, 0),
		of("glob t0 0 8; load t1 t0 -8 4; ret t1", api.StopExit, 0x04030201),
		of("glob t0 0 8; load t1 t0 -9 1; ret t1", api.StopUndef, 0),
		of("glob t0 0 8; load t1 t0 0 1; ret t1", api.StopUndef, 0),
		of("glob t0 0 7; load t1 t0 0 1; ret t1", api.StopExit, 8),
		of("glob t0 0 1; load t1 t0 3 4; ret t1", api.StopExit, 0x08070605),
		of("glob t0 0 1; load t1 t0 0 4; ret t1", api.StopUndef, 0),
		of("glob t0 0 1; load t0 t0 0 1; ret t0", api.StopExit, 2),
		of("glob t0 0 0; store t0 0 t0 4; load t1 t0 0 4; load t2 t1 4 1; ret t2", api.StopExit, 5),
		of("glob t0 0 0; store t0 2 t0 4; ret #0", api.StopUndef, 0),
		of("glob t0 0 0; store t0 4 t0 2; ret #0", api.StopUndef, 0),
		of("glob t0 0 0; store t0 4 t0 1; ret #0", api.StopUndef, 0),
		of("store t0 0 #1 4; ret #0", api.StopUndef, 0),
		of("glob t0 0 0; store t0 0 t1 4; ret #0", api.StopUndef, 0),
		of("glob t0 0 0; store t0 0 t1 1; ret #0", api.StopUndef, 0),
		of("load t0 t1 0 1; ret #0", api.StopUndef, 0),
	)
}

// TestP14_2Parts: a pointer is loaded whole where all its parts stand, and nothing else is made of them.
func TestP14_2Parts(t *testing.T) {
	const ahead = "slot 8 4; slot 8 4; addr t0 0 0; addr t1 1 0; store t0 0 t1 4; "
	runs(t,
		exits(ahead+"load t2 t0 0 4; eq t3 t2 t1; ret t3", 1),
		undefined(ahead+"load t2 t0 0 1; ret #0"),
		undefined(ahead+"load t2 t0 2 2; ret #0"),
		undefined(ahead+"store t0 1 #5 1; load t2 t0 0 4; ret #0"),
		exits(ahead+"store t0 1 #5 1; load t2 t0 1 1; ret t2", 5),
		exits(ahead+"store t0 0 #5 4; load t2 t0 0 4; ret t2", 5),
		exits(ahead+"copy t1 t0 4 4; load t2 t1 0 4; eq t3 t2 t1; ret t3", 1),
		exits(ahead+"add t2 t0 #4; copy t2 t0 4 1; load t2 t0 4 4; eq t3 t2 t1; ret t3", 1),
		undefined(ahead+"add t2 t0 #4; copy t2 t0 2 2; load t2 t0 4 4; ret #0"),
		exits(ahead+"add t2 t0 #4; add t3 t2 #2; add t4 t0 #2; copy t2 t0 2 2; copy t3 t4 2 2; load t2 t0 4 4; eq t3 t2 t1; ret t3", 1),
		undefined(ahead+"add t2 t0 #4; add t3 t2 #2; copy t2 t0 2 2; copy t3 t0 2 2; load t2 t0 4 4; ret #0"),
		exits(ahead+"store t0 0 #0 4; load t2 t0 0 4; eq t3 t2 t1; ret t3", 0),
		exits(ahead+"store t0 4 #8 4; store t1 0 #9 4; load t2 t0 0 4; load t2 t2 0 4; ret t2", 9),
	)
}

// TestP14_2Copy: bytes are copied set or not, whatever they are; copies that overlap are undefined, but of what is copied onto itself.
func TestP14_2Copy(t *testing.T) {
	show := "; mov t2 #12; load t1 t0 0 1; put t1; add t0 t0 #1; sub t2 t2 #1; branch t2 5; ret #1"
	for to := range 13 {
		for from := range 13 {
			for _, n := range []int{1, 2, 3, 4, 6, 8, 12, 13} {
				for _, width := range []int{1, 2, 4} {
					if n%width != 0 {
						continue
					}
					code := fmt.Sprintf("glob t0 0 %d; glob t1 0 %d; copy t0 t1 %d %d; glob t0 0 0", to, from, n, width)
					want := sample{text: inMain("object x 12 4; data 6162636465666768696a6b6c", code+show), stop: api.StopUndef}
					if apart := max(to-from, from-to); to+n <= 12 && from+n <= 12 && to%width == 0 && from%width == 0 && (apart == 0 || apart >= n) {
						b := []byte("abcdefghijkl")
						copy(b[to:to+n], "abcdefghijkl"[from:])
						want.stop, want.code, want.out = api.StopExit, 1, string(b)
					}
					if o := ran(t, want.text, "", enough); o.Stop != want.stop || o.Code != want.code || string(o.Out) != want.out {
						t.Fatalf("%s%s; want stop %d, out %q", want.text, shown(o), want.stop, want.out)
					}
				}
			}
		}
	}
	const two = "slot 8 4; slot 8 4; addr t0 0 0; addr t1 1 0; "
	runs(t,
		exits(two+"copy t0 t1 8 4; ret #3", 3),
		undefined(two+"copy t0 t1 8 4; load t2 t0 0 1; ret #3"),
		undefined(two+"store t0 0 #5 4; copy t0 t1 8 4; load t2 t0 0 1; ret #3"),
		exits(two+"store t0 0 #5 4; copy t1 t0 8 4; load t2 t1 0 4; ret t2", 5),
		undefined(two+"store t0 0 #5 4; copy t1 t0 8 4; load t2 t1 4 4; ret t2"),
		exits(two+"store t0 4 #5 4; copy t0 t0 8 4; load t2 t0 4 4; ret t2", 5),
		undefined(two+"copy t0 t1 12 4; ret #3"),
		undefined(two+"copy t7 t1 8 4; ret #3"),
		undefined(two+"copy t1 t7 8 4; ret #3"),
	)
	for _, align := range []string{"1", "2", "4"} {
		for _, width := range []string{"1", "2", "4"} {
			code := "slot 8 4; slot 8 " + align + "; addr t0 0 0; addr t1 1 0; "
			to, from := exits(code+"copy t1 t0 8 "+width+"; ret #3", 3), exits(code+"copy t0 t1 8 "+width+"; ret #3", 3)
			if strings.Compare(align, width) < 0 {
				to, from = undefined(code+"copy t1 t0 8 "+width+"; ret #3"), undefined(code+"copy t0 t1 8 "+width+"; ret #3")
			}
			runs(t, to, from)
		}
	}
}

// TestP14_2Unset: what is not set is handed on by a TacMov, a TacRet and an argument; whatever else takes it ends the run.
func TestP14_2Unset(t *testing.T) {
	const ahead = "func id 1 1 gives; ret t0; func main 0 9 gives; slot 8 4; addr t1 0 0; store t1 0 #5 4; mov t2 #1; "
	for _, way := range []string{"put #46", "mov t0 t7", "mov t0 #3; mov t0 t7", "call t0 0 t7", "mov t0 #3; call t0 0 t0; call t0 0 t7", "call t7 0 t7; mov t0 t7"} {
		of := func(code string, stop api.Stop, with int) sample {
			s := sample{text: lined(ahead + way + "; " + code + "; main 1"), stop: stop, code: with}
			if strings.HasPrefix(way, "put") {
				s.out = "."
			}
			return s
		}
		runs(t,
			of("mov t3 t0; call t3 0 t0; call - 0 t3; ret #4", api.StopExit, 4),
			of("mov t0 #8; ret t0", api.StopExit, 8),
			of("ret t0", api.StopUndef, 0), of("exit t0", api.StopUndef, 0), of("put t0; ret #4", api.StopUndef, 0), of("branch t0 0; ret #4", api.StopUndef, 0),
			of("load t3 t0 0 4; ret #4", api.StopUndef, 0), of("store t0 0 #1 4; ret #4", api.StopUndef, 0), of("store t1 0 t0 4; ret #4", api.StopUndef, 0), of("store t1 0 t0 1; ret #4", api.StopUndef, 0), of("store t0 0 t0 4; ret #4", api.StopUndef, 0),
			of("copy t0 t1 4 4; ret #4", api.StopUndef, 0), of("copy t1 t0 4 4; ret #4", api.StopUndef, 0), of("copy t0 t0 4 4; ret #4", api.StopUndef, 0),
		)
		for op := api.OpAdd; op <= api.OpLeU; op++ {
			for _, pair := range []string{"t0 t2", "t2 t0", "t0 t1", "t1 t0", "t0 t0", "t0 #0", "#0 t0"} {
				runs(t, of(word.Name(op)+" t3 "+pair+"; ret #4", api.StopUndef, 0))
			}
		}
	}
}

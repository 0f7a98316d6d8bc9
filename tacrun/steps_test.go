package tacrun

import (
	"fmt"
	"strings"
	"testing"

	"mortise/api"
)

// TestP14_1Steps: an instruction takes one step, whichever it is, ahead of what it does: with fuel that just reaches it is done, with one less it is not.
func TestP14_1Steps(t *testing.T) {
	const ahead = "slot 8 4; addr t0 0 0; store t0 0 #65 4; mov t1 #3; " // three steps
	for _, x := range []string{
		"mov t2 #1", "mov t2 t8", "add t2 t1 t1", "divs t2 t1 #2", "eq t2 t0 #0", "addr t2 0 8", "glob t2 0 0", "load t2 t0 0 4", "load t2 t0 1 1 signed", "store t0 4 t1 4", "store t0 7 #1 1",
		"call - 1 t1", "call t2 1 #0", "jump 4", "branch t1 4", "branch #0 0", "put t1", "get t2",
	} {
		text := lined("object x 4 4; func main 0 9 gives; " + ahead + x + "; put #33; ret #9; func f 1 1 gives; ret t0; main 0")
		steps := 6
		if strings.HasPrefix(x, "call") {
			steps++
		}
		p := programOf(t, text)
		out := ""
		if x == "put t1" {
			out = "\x03"
		}
		for fuel := 1; fuel < steps; fuel++ {
			agrees(t, p, "i", fuel)
			if o := mustRun(t, p, []byte("i"), fuel); o.Stop != api.StopFuel || o.Steps != fuel || fuel < 4 && len(o.Out) > 0 || fuel == steps-1 && string(o.Out) != out+"!" {
				t.Errorf("%s by %d: %s", x, fuel, shown(o))
			}
		}
		if o := mustRun(t, p, []byte("i"), steps); !same(o, api.Outcome{Stop: api.StopExit, Code: 9, Out: []byte(out + "!"), Steps: steps}) {
			t.Errorf("%s: %s", x, shown(o))
		}
	}
}

// TestP14_1StepsFirst: what an instruction takes is taken also where it ends the run, and ahead of that.
func TestP14_1StepsFirst(t *testing.T) {
	for x, stop := range map[string]api.Stop{
		"divs t0 #1 #0": api.StopZero, "add t0 t1 #1": api.StopUndef, "load t0 #0 0 4": api.StopUndef, "store t1 0 #0 4": api.StopUndef, "branch t1 0": api.StopUndef, "put t1": api.StopUndef,
		"exit #0": api.StopExit, "exit t1": api.StopUndef, "ret #0": api.StopExit, "ret t1": api.StopUndef,
	} {
		p := programOf(t, inMain("", "put #65; "+x+"; ret #0"))
		for fuel, want := range map[int]api.Outcome{1: {Stop: api.StopFuel, Steps: 1}, 2: {Stop: stop, Steps: 2}, 3: {Stop: stop, Steps: 2}} {
			want.Out = []byte("A")
			if o := mustRun(t, p, nil, fuel); !same(o, want) {
				t.Errorf("%s by %d: %s", x, fuel, shown(o))
			}
		}
	}
}

// TestP14_1CopySteps: a TacCopy takes one step and as many as it has bytes; where the fuel does not reach for all of them nothing is copied, and all of it is taken.
func TestP14_1CopySteps(t *testing.T) {
	for _, c := range []struct{ bytes, width int }{{1, 1}, {2, 1}, {2, 2}, {4, 4}, {8, 4}, {16, 4}, {16, 1}, {16384, 4}, {16384, 1}} {
		text := inMain("object x 16384 4; data 41; object y 16384 4", fmt.Sprintf("glob t0 0 0; glob t1 1 0; copy t1 t0 %d %d; load t2 t1 0 1; put t2; ret t2", c.bytes, c.width))
		p := programOf(t, text)
		for left, want := range map[int]api.Outcome{
			1: {Stop: api.StopFuel}, c.bytes: {Stop: api.StopFuel}, c.bytes + 1: {Stop: api.StopFuel}, c.bytes + 2: {Stop: api.StopFuel}, c.bytes + 3: {Stop: api.StopFuel, Out: []byte("A")}, c.bytes + 4: {Stop: api.StopExit, Code: 65, Out: []byte("A")}, c.bytes + 9: {Stop: api.StopExit, Code: 65, Out: []byte("A")},
		} {
			want.Steps = 2 + min(left, c.bytes+4)
			if o := mustRun(t, p, nil, 2+left); !same(o, want) {
				t.Errorf("%d bytes by %d, %d steps left: %s; want %s", c.bytes, c.width, left, shown(o), shown(want))
			}
			agrees(t, p, "", 2+left)
		}
	}
	for _, x := range []string{"copy t7 t0 8 4", "copy t0 t7 8 4", "copy t0 t0 16 4", "copy #0 t0 8 4", "copy t0 #0 8 4", "copy t1 t0 8 4"} { // undefined, but for the last one
		p := programOf(t, inMain("object x 8 4; object y 8 4", "glob t0 0 0; glob t1 1 0; "+x+"; put #65; ret #0"))
		steps := 3 + 8
		stop := api.StopUndef
		if strings.Contains(x, "16") {
			steps = 3 + 16
		}
		for fuel := 3; fuel < steps; fuel++ {
			if o := mustRun(t, p, nil, fuel); !same(o, api.Outcome{Stop: api.StopFuel, Steps: fuel}) {
				t.Errorf("%s by %d: %s", x, fuel, shown(o))
			}
		}
		if x == "copy t1 t0 8 4" {
			stop = api.StopFuel
		}
		if o := mustRun(t, p, nil, steps); !same(o, api.Outcome{Stop: stop, Steps: steps}) {
			t.Errorf("%s by %d: %s", x, steps, shown(o))
		}
	}
}

// TestP14_1EachTime: steps are taken each time that an instruction is done, and not by those that are not.
func TestP14_1EachTime(t *testing.T) {
	for rounds := 1; rounds < 20; rounds++ {
		p := programOf(t, inMain("", fmt.Sprintf("mov t0 #%d; put #46; sub t0 t0 #1; branch t0 1; jump 6; put #33; ret #2", rounds)))
		want := api.Outcome{Stop: api.StopExit, Code: 2, Out: []byte(strings.Repeat(".", rounds)), Steps: 1 + 3*rounds + 2}
		if o := mustRun(t, p, nil, enough); !same(o, want) {
			t.Errorf("%d rounds: %s; want %s", rounds, shown(o), shown(want))
		}
		agrees(t, p, "", 2*rounds)
	}
}

package tacrun

import (
	"fmt"
	"strings"
	"testing"

	"mortise/api"
)

// nested is the text of a main that calls down, which calls itself until as many calls go on as t0 says, and exits with that; each of them has so many slots, behind so many objects.
func nested(calls, slots, objects int) string {
	return lined(strings.Repeat("object x 1 1; ", objects) +
		"func down 1 2; " + strings.Repeat("slot 1 1; ", slots) + "put #46; leu t1 t0 #2; branch t1 6; sub t1 t0 #1; call - 0 t1; ret; exit #7; " +
		fmt.Sprintf("func main 0 0; call - 0 #%d; ret; main 1", calls))
}

// TestP14_1Deep: 64 calls may go on within each other, and no more.
func TestP14_1Deep(t *testing.T) {
	for _, calls := range []int{2, 3, 63, 64, 65, 66, 100} {
		o := ran(t, nested(calls, 0, 0), "", enough)
		want := api.Outcome{Stop: api.StopExit, Code: 7, Out: []byte(strings.Repeat(".", calls-1)), Steps: 1 + 5*(calls-2) + 4}
		if calls > 64 {
			want = api.Outcome{Stop: api.StopDeep, Out: []byte(strings.Repeat(".", 63)), Steps: 1 + 5*63}
		}
		if !same(o, want) {
			t.Errorf("%d calls: %s; want %s", calls, shown(o), shown(want))
		}
		agrees(t, programOf(t, nested(calls, 0, 0)), "", enough)
	}
	runs(t,
		stops("put #120; call t0 0; ret t0", api.StopDeep).with(strings.Repeat("x", 64)),
		sample{text: lined("func f 0 0; put #97; call - 1; ret; func g 0 0; put #98; call - 0; ret; func main 0 0; call - 0; ret; main 2"), stop: api.StopDeep, out: strings.Repeat("ab", 31) + "a"},
		sample{text: lined("func f 1 2 gives; leu t1 t0 #2; branch t1 5; sub t1 t0 #1; call t1 0 t1; ret t1; ret #9; func main 0 2 gives; mov t0 #50; call t1 0 #64; put t1; sub t0 t0 #1; branch t0 1; ret #1; main 1"), stop: api.StopExit, code: 1, out: strings.Repeat("\t", 50)},
	)
}

// TestP14_1DeepFuel: a call that is too deep takes its step first.
func TestP14_1DeepFuel(t *testing.T) {
	p := programOf(t, lined("func main 0 0; call - 0; ret; main 0"))
	for fuel, want := range map[int]api.Outcome{
		63: {Stop: api.StopFuel, Steps: 63},
		64: {Stop: api.StopDeep, Steps: 64},
		65: {Stop: api.StopDeep, Steps: 64},
	} {
		if o := mustRun(t, p, nil, fuel); !same(o, want) {
			t.Errorf("by %d: %s", fuel, shown(o))
		}
	}
}

// TestP14_1Blocks: a call whose slots just get blocks goes on; one block more, and it does not.
func TestP14_1Blocks(t *testing.T) {
	for _, c := range []struct {
		calls, slots, objects int
		fits                  bool
	}{
		{17, 256, 0, true}, {18, 256, 0, false}, {17, 256, 1, false}, {17, 255, 16, true}, {17, 255, 17, false}, {16, 256, 256, true}, {17, 256, 256, false},
		{64, 65, 1, true}, {64, 65, 2, false}, {63, 66, 4, true}, {63, 66, 5, false}, {64, 66, 0, false}, {64, 64, 64, true}, {64, 64, 65, false}, {65, 1, 0, false}, {2, 256, 256, true}, {64, 61, 253, true}, {64, 61, 254, false},
	} {
		text := nested(c.calls, c.slots, c.objects)
		o := ran(t, text, "", enough)
		if stop := map[bool]api.Stop{true: api.StopExit, false: api.StopDeep}[c.fits]; o.Stop != stop {
			t.Errorf("%v: %s", c, shown(o))
		}
		agrees(t, programOf(t, text), "", enough)
	}
}

// TestP14_1BlocksAgain: blocks that ended leave room for others, of the same function and of another one.
func TestP14_1BlocksAgain(t *testing.T) {
	few := strings.Replace(nested(16, 256, 256), "exit #7", "ret", 1)
	again := strings.Replace(few, "call - 0 #16\nret", "call - 0 #16\nput #33\ncall - 0 #16\nput #33\ncall - 0 #16\nret", 1)
	runs(t, sample{text: again, stop: api.StopExit, out: strings.Repeat(".", 15) + "!" + strings.Repeat(".", 15) + "!" + strings.Repeat(".", 15)})
	many := lined("func f 0 1; " + strings.Repeat("slot 8 4; ", 256) + "addr t0 255 0; store t0 0 #1 4; ret; func main 0 1 gives; mov t0 #5000; call - 0; sub t0 t0 #1; branch t0 1; ret #6; main 1")
	if o := ran(t, many, "", enough); o.Stop != api.StopExit || o.Code != 6 || o.Steps != 1+6*5000+1 {
		t.Errorf("5000 calls of 256 slots: %s", shown(o))
	}
}

// TestP14_1Slots: slots have their sizes and aligns, each its own block, none of whose bytes is set.
func TestP14_1Slots(t *testing.T) {
	const three = "slot 4 4; slot 3 2; slot 16384 1; "
	runs(t,
		exits(three+"addr t0 0 0; store t0 0 #5 4; addr t1 1 0; store t1 0 #6 2; addr t2 2 0; store t2 16383 #7 1; load t0 t0 0 4; load t1 t1 0 2; load t2 t2 16383 1; mul t0 t0 t1; mul t0 t0 t2; ret t0", 210),
		undefined(three+"addr t0 0 0; load t1 t0 0 4; ret #0"),
		undefined(three+"addr t0 0 0; load t1 t0 3 1; ret #0"),
		undefined(three+"addr t0 0 0; store t0 0 #1 2; load t1 t0 0 4; ret #0"),
		undefined(three+"addr t0 1 0; store t0 0 #1 4; ret #0"),
		undefined(three+"addr t0 1 0; store t0 2 #1 2; ret #0"),
		undefined(three+"addr t0 2 0; store t0 0 #1 2; ret #0"),
		undefined(three+"addr t0 2 0; store t0 16384 #1 1; ret #0"),
		undefined(three+"addr t0 0 4; store t0 0 #1 1; ret #0"),
		exits(three+"addr t0 0 4; store t0 -4 #1 1; addr t1 0 0; load t2 t1 0 1; ret t2", 1),
		undefined(three+"addr t0 0 0; addr t1 1 0; sub t2 t0 t1; ret t2"),
		exits(three+"addr t0 0 0; addr t1 1 0; eq t2 t0 t1; ret t2", 0),
		exits(three+"addr t0 0 0; addr t1 0 0; eq t2 t0 t1; ret t2", 1),
		exits(three+"addr t0 2 16384; addr t1 2 0; sub t2 t0 t1; ret t2", 16384),
	)
	var slots, stores, sum []string
	for i := range api.MaxSlots {
		slots = append(slots, "slot 4 4")
		stores = append(stores, fmt.Sprintf("addr t0 %d 0; store t0 0 #%d 4", i, i*i))
		sum = append(sum, fmt.Sprintf("addr t0 %d 0; load t2 t0 0 4; add t1 t1 t2", i))
	}
	all := strings.Join(slots, "; ") + "; mov t1 #0; " + strings.Join(stores, "; ") + "; " + strings.Join(sum, "; ") + "; ret t1"
	runs(t, exits(all, 255*256*511/6))
}

// TestP14_1Fresh: each call has its own slots, none of whose bytes is set, whatever earlier calls left there.
func TestP14_1Fresh(t *testing.T) {
	runs(t,
		sample{text: lined("func f 1 2 gives; slot 4 4; addr t1 0 0; branch t0 4; load t1 t1 0 4; ret t1; store t1 0 #5 4; ret #0; func main 0 1 gives; call t0 0 #1; call t0 0 #0; ret t0; main 1"), stop: api.StopUndef},
		sample{text: lined("func f 1 3 gives; slot 4 4; addr t1 0 0; store t1 0 t0 4; branch t0 4; ret #0; sub t2 t0 #1; call t2 0 t2; load t1 t1 0 4; add t1 t1 t2; ret t1; func main 0 1 gives; call t0 0 #10; ret t0; main 1"), stop: api.StopExit, code: 55},
		sample{text: lined("func f 2 3 gives; slot 4 4; addr t2 0 0; branch t0 3; ret #2; eq t2 t2 t1; ret t2; func g 0 1 gives; slot 4 4; addr t0 0 0; call t0 0 #1 t0; ret t0; func main 0 1 gives; call t0 1; ret t0; main 2"), stop: api.StopExit, code: 0},
	)
}

// TestP14_1Ended: a pointer to a slot whose call has ended is handed on, stored and loaded, but is good for nothing else.
func TestP14_1Ended(t *testing.T) {
	const ahead = "func leak 0 1 gives; slot 8 4; addr t0 0 0; store t0 0 #5 4; ret t0; func id 1 1 gives; ret t0; func main 0 5 gives; slot 4 4; addr t4 0 0; call t0 0; "
	of := func(code string, stop api.Stop, with int) sample {
		return sample{text: lined(ahead + code + "; main 2"), stop: stop, code: with}
	}
	runs(t,
		of("mov t1 t0; call t1 1 t1; ret #3", api.StopExit, 3),
		of("store t4 0 t0 4; load t1 t4 0 4; ret #3", api.StopExit, 3),
		of("store t4 0 t0 4; copy t4 t4 4 4; load t1 t4 0 4; mov t2 t1; ret #4", api.StopExit, 4),
		of("call - 0; ret #5", api.StopExit, 5),
		of("ret t0", api.StopUndef, 0),
		of("exit t0", api.StopUndef, 0),
		of("put t0; ret #1", api.StopUndef, 0),
		of("load t1 t0 0 4; ret #1", api.StopUndef, 0),
		of("load t1 t0 0 1; ret #1", api.StopUndef, 0),
		of("store t0 0 #1 4; ret #1", api.StopUndef, 0),
		of("copy t0 t4 4 4; ret #1", api.StopUndef, 0),
		of("copy t4 t0 4 4; ret #1", api.StopUndef, 0),
		of("branch t0 0; ret #1", api.StopUndef, 0),
		of("eq t1 t0 t0; ret #1", api.StopUndef, 0),
		of("eq t1 t0 #0; ret #1", api.StopUndef, 0),
		of("ne t1 t4 t0; ret #1", api.StopUndef, 0),
		of("add t1 t0 #0; ret #1", api.StopUndef, 0),
		of("sub t1 t0 t0; ret #1", api.StopUndef, 0),
		of("call t1 0; eq t1 t0 t1; ret #1", api.StopUndef, 0),
		of("call t1 0; load t2 t0 0 4; ret t2", api.StopUndef, 0),
		of("store t4 0 t0 4; load t1 t4 0 4; load t2 t1 0 4; ret t2", api.StopUndef, 0),
		of("store t4 0 t0 2; ret #1", api.StopUndef, 0),
	)
}

// TestP14_1Caller: a pointer to a slot of a call that goes on is good in the calls within it.
func TestP14_1Caller(t *testing.T) {
	runs(t,
		sample{text: lined("func f 1 2 gives; slot 4 4; addr t1 0 0; store t1 0 #9 4; store t0 4 t1 4; store t0 0 #6 4; ret #0; func main 0 2 gives; slot 8 4; addr t0 0 0; call - 0 t0; load t1 t0 0 4; ret t1; main 1"), stop: api.StopExit, code: 6},
		sample{text: lined("func f 1 2 gives; slot 4 4; addr t1 0 0; store t1 0 #9 4; store t0 4 t1 4; ret #0; func main 0 2 gives; slot 8 4; addr t0 0 0; call - 0 t0; load t1 t0 4 4; load t1 t1 0 4; ret t1; main 1"), stop: api.StopUndef},
		sample{text: lined("func g 1 2; load t1 t0 0 4; add t1 t1 #1; store t0 0 t1 4; ret; func f 1 1; call - 0 t0; call - 0 t0; ret; func main 0 2 gives; slot 4 4; addr t0 0 0; store t0 0 #40 4; call - 1 t0; load t1 t0 0 4; ret t1; main 2"), stop: api.StopExit, code: 42},
	)
}

// TestP14_1Temporaries: a call's temporaries are not set at first, whatever they had in calls before it or around it; parameters have the arguments' values.
func TestP14_1Temporaries(t *testing.T) {
	for _, d := range []int{0, 1, 2, 4095} {
		for _, take := range []string{"put t%d", "branch t%d 0", "exit t%d", "add t%d t%[1]d #1"} {
			code := fmt.Sprintf("func f 1 4096 gives; branch t0 3; "+take+"; ret #0; mov t%[1]d #5; mov t0 t%[1]d; ret t0; func main 0 4096 gives; mov t%[1]d #6; ", max(d, 1))
			runs(t,
				sample{text: lined(code + fmt.Sprintf("call t0 0 #1; ret t%d; main 1", d)), stop: api.StopExit, code: map[bool]int{true: 5, false: 6}[d == 0]},
				sample{text: lined(code + "call t0 0 #1; call t0 0 #0; ret t0; main 1"), stop: api.StopUndef},
				sample{text: lined(code + "call t0 0 #0; ret t0; main 1"), stop: api.StopUndef},
			)
		}
	}
	runs(t,
		sample{text: lined("func small 0 1 gives; mov t0 #1; ret t0; func large 0 3 gives; ret t2; func main 0 2 gives; call t0 0; call t0 1; put #65; put t0; ret #0; main 2"), stop: api.StopUndef, out: "A"},
		sample{text: lined("func large 0 3 gives; mov t0 #1; mov t2 #2; ret t2; func small 0 1 gives; ret t0; func main 0 2 gives; call t0 0; call t0 1; put #65; put t0; ret #0; main 2"), stop: api.StopUndef, out: "A"},
		sample{text: lined("func f 1 3 gives; branch t0 2; ret t1; mov t1 #7; call t2 0 #0; ret t2; func main 0 2 gives; call t0 0 #1; put #65; put t0; ret #0; main 1"), stop: api.StopUndef, out: "A"},
		sample{text: lined("func f 1 3 gives; mov t1 t0; branch t0 3; ret #0; sub t2 t0 #1; call - 0 t2; ret t1; func main 0 2 gives; call t0 0 #30; ret t0; main 1"), stop: api.StopExit, code: 30},
	)
}

// TestP14_1Parameters: arguments come to their parameters in order, up to eight of them.
func TestP14_1Parameters(t *testing.T) {
	for n := range 9 {
		head, args, fold, want := fmt.Sprintf("func f %d 9 gives; mov t8 #0; ", n), "", "", 0
		for i := range n {
			fold += fmt.Sprintf("mul t8 t8 #7; add t8 t8 t%d; ", i)
			args += []string{fmt.Sprintf(" #%d", i+1), " t3"}[i%2]
			want = want*7 + []int{i + 1, 5}[i%2]
		}
		runs(t, sample{text: lined(head + fold + "ret t8; func main 0 4 gives; mov t3 #5; call t0 0" + args + "; ret t0; main 1"), stop: api.StopExit, code: want})
	}
	runs(t,
		sample{text: lined("func f 2 2 gives; sub t0 t0 t1; ret t0; func main 0 2 gives; mov t0 #9; mov t1 #4; call t0 0 t1 t0; ret t0; main 1"), stop: api.StopExit, code: -5},
		sample{text: lined("func f 1 1; mov t0 #1; ret; func main 0 1 gives; mov t0 #9; call - 0 t0; ret t0; main 1"), stop: api.StopExit, code: 9}, // an argument is handed over as a value
		sample{text: lined("func f 1 2 gives; load t1 t0 0 4; ret t1; func main 0 1 gives; slot 4 4; addr t0 0 0; store t0 0 #8 4; call t0 0 t0; ret t0; main 1"), stop: api.StopExit, code: 8},
		sample{text: lined("func f 1 1 gives; ret t0; func main 0 1 gives; call t0 0 #4294967295; ret t0; main 1"), stop: api.StopExit, code: -1},
	)
}

// TestP14_2Results: D has what the call returned; nothing has it, where D is -1.
func TestP14_2Results(t *testing.T) {
	runs(t,
		sample{text: lined("func f 0 0 gives; ret #5; func main 0 2 gives; mov t0 #8; mov t1 #9; call t1 0; mul t0 t0 t1; ret t0; main 1"), stop: api.StopExit, code: 40},
		sample{text: lined("func f 0 0 gives; ret #5; func main 0 2 gives; mov t0 #8; mov t1 #9; call - 0; mul t0 t0 t1; ret t0; main 1"), stop: api.StopExit, code: 72},
		sample{text: lined("func f 0 0; ret; func main 0 2 gives; mov t0 #8; mov t1 #9; call - 0; mul t0 t0 t1; ret t0; main 1"), stop: api.StopExit, code: 72},
		sample{text: lined("func f 0 1 gives; ret t0; func main 0 2 gives; mov t0 #8; call - 0; ret t0; main 1"), stop: api.StopExit, code: 8},
		sample{text: lined("func f 0 1 gives; ret t0; func main 0 2 gives; mov t0 #8; call t0 0; put #65; ret t0; main 1"), stop: api.StopUndef, out: "A"},
		sample{text: lined("object x 4 4; data 07; func f 0 1 gives; glob t0 0 4; ret t0; func main 0 2 gives; call t0 0; load t0 t0 -4 4; ret t0; main 1"), stop: api.StopExit, code: 7},
		sample{text: lined("func f 0 0 gives; put #97; ret #5; put #98; ret #6; func main 0 2 gives; call t0 0; put #99; ret t0; main 1"), stop: api.StopExit, code: 5, out: "ac"},
	)
}

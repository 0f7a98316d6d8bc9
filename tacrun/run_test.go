package tacrun

import (
	"math"
	"strings"
	"testing"

	"mortise/api"
)

// noFuels are numbers that are no fuel; some are one, if taken modulo 2^32.
func noFuels() []int {
	return []int{0, -1, -2, -4194304, api.MaxFuel + 1, api.MaxFuel + 2, 1<<32 + 1, 1<<32 + 100, 1<<62 + 3, math.MaxInt, math.MinInt, math.MinInt + 1}
}

// refused asks that a program is refused with an error, and that nothing stands beside it.
func refused(t *testing.T, p api.TacProg, fuel int, want api.Errno) {
	t.Helper()
	if o, err := Run(p, []byte("abc"), fuel); err != want || !same(o, api.Outcome{}) {
		t.Errorf("Run by %d: error %d, %s; want error %d", fuel, err, shown(o), want)
	}
}

// refusedText asks the same of a text.
func refusedText(t *testing.T, s string, fuel int, want api.Errno) {
	t.Helper()
	if o, err := Text(s, []byte("abc"), fuel); err != want || !same(o, api.Outcome{}) {
		t.Errorf("Text of %.200q by %d: error %d, %s; want error %d", s, fuel, err, shown(o), want)
	}
}

// TestP14_1Fuel: fuels are from 1 to MaxFuel.
func TestP14_1Fuel(t *testing.T) {
	text := inMain("", "mov t0 #7; put #65; ret t0")
	p := programOf(t, text)
	for _, fuel := range noFuels() {
		refused(t, p, fuel, api.ErrArg)
		refusedText(t, text, fuel, api.ErrArg)
	}
	for fuel, want := range map[int]api.Outcome{
		1:               {Stop: api.StopFuel, Steps: 1},
		2:               {Stop: api.StopFuel, Steps: 2, Out: []byte("A")},
		3:               {Stop: api.StopExit, Code: 7, Steps: 3, Out: []byte("A")},
		4:               {Stop: api.StopExit, Code: 7, Steps: 3, Out: []byte("A")},
		api.MaxFuel - 1: {Stop: api.StopExit, Code: 7, Steps: 3, Out: []byte("A")},
		4194304:         {Stop: api.StopExit, Code: 7, Steps: 3, Out: []byte("A")},
	} {
		if o := mustRun(t, p, nil, fuel); !same(o, want) {
			t.Errorf("Run by %d: %s", fuel, shown(o))
		}
		if o := ran(t, text, "", fuel); !same(o, want) {
			t.Errorf("Text by %d: %s", fuel, shown(o))
		}
	}
}

// TestP14_1MostFuel: a run may take MaxFuel steps, and takes no more.
func TestP14_1MostFuel(t *testing.T) {
	for _, fuel := range []int{api.MaxFuel - 1, api.MaxFuel} {
		for _, code := range []string{"jump 0", "mov t0 #1; branch t0 0; exit t0", "call t0 0; ret t0"} {
			o := ran(t, inMain("", code), "", fuel)
			want := api.Outcome{Stop: api.StopFuel, Steps: fuel}
			if strings.HasPrefix(code, "call") {
				want = api.Outcome{Stop: api.StopDeep, Steps: 64}
			}
			if !same(o, want) {
				t.Errorf("%s by %d: %s", code, fuel, shown(o))
			}
		}
	}
	const down = "mov t0 #%; sub t0 t0 #1; branch t0 1; ret #3"
	for n, want := range map[string]api.Outcome{
		"2097151": {Stop: api.StopExit, Code: 3, Steps: 4194304},
		"2097152": {Stop: api.StopFuel, Steps: 4194304},
	} {
		if o := ran(t, inMain("", strings.Replace(down, "%", n, 1)), "", api.MaxFuel); !same(o, want) {
			t.Errorf("%s rounds: %s", n, shown(o))
		}
	}
}

// wrongTexts are texts that layer 13 refuses, though most lines of them are right.
func wrongTexts() []string {
	const end = "ret t0; main 0"
	list := []string{"main 0", "func main 0 0; main 0", "func main 0 1 gives; mov t0 #1; main 0", "func main 1 1 gives; " + end, "func main 0 1 gives; mov t1 #5; " + end}
	for _, line := range []string{
		"mov t0 #4294967296", "mov t0 #-1", "mov t0 5", "mov t0", "mov #1 t0", "pow t0 #1 #2", "add t0 #1", "addr t0 0 0", "glob t0 0 0", "load t0 t0 0 3", "load t0 t0 0 4 signed", "load t0 t0 16385 4",
		"store t0 0 #1 8", "copy t0 t0 3 2", "copy t0 t0 0 1", "call t0 1", "call t0 0 #1", "ret", "jump 3", "jump -1", "branch t0 9", "put", "get #1", "exit", "nop", "", " mov t0 #1", "mov t0 #1 ",
	} {
		list = append(list, "func main 0 1 gives; "+line+"; "+end)
	}
	list = append(list, "object x 4 4; data 0; func main 0 1 gives; "+end, "object x 4 2; reloc 0 0 0; func main 0 1 gives; "+end, "object x 4 4; reloc 0 0 5; func main 0 1 gives; "+end)
	for i, s := range list {
		list[i] = lined(s)
	}
	return append(list, "", "\n", "func main 0 0\nret\nmain 0", "func main 0 0\nret\nmain 0\n\n", "func main 0 0\r\nret\r\nmain 0\r\n", "func main 0 0\nret\nmain 00\n", strings.Repeat("\x00", 100))
}

// TestP14_1Text: what layer 13 does not read is refused, whatever the fuel is.
func TestP14_1Text(t *testing.T) {
	for _, s := range wrongTexts() {
		for _, fuel := range append(noFuels(), 1, 50, api.MaxFuel) {
			refusedText(t, s, fuel, api.ErrTac)
		}
	}
	long := lined("func main 0 0; " + strings.Repeat("put #4294967295; ", 16383) + "ret; main 0")
	if o := ran(t, long, "", enough); o.Stop != api.StopExit || o.Steps != 16384 || len(o.Out) != 16383 {
		t.Errorf("the longest function: %s", shown(o))
	}
	refusedText(t, lined("func main 0 0; "+strings.Repeat("put #4294967295; ", 16384)+"ret; main 0"), enough, api.ErrTac)
}

// wrongPrograms are programs that were right, with something turned in each.
func wrongPrograms(t *testing.T) []api.TacProg {
	base := programOf(t, lined("object x 8 4; data 01; reloc 4 0 8; func main 0 2 gives; slot 4 4; addr t0 0 0; store t0 0 #7 4; call t1 1 t0; branch t1 5; put #65; ret t1; func f 1 1 gives; load t0 t0 0 4; ret t0; main 0"))
	if o := mustRun(t, base, nil, enough); o.Stop != api.StopExit || o.Code != 7 {
		t.Fatalf("the program itself: %s", shown(o))
	}
	turns := []func(p *api.TacProg){
		func(p *api.TacProg) { p.Main = 1 },
		func(p *api.TacProg) { p.Main = -1 },
		func(p *api.TacProg) { p.Main = 2 },
		func(p *api.TacProg) { p.Funcs = nil },
		func(p *api.TacProg) { p.Objects[0].Size = 7 },
		func(p *api.TacProg) { p.Objects[0].Size, p.Objects[0].Data.Bytes = 0, nil },
		func(p *api.TacProg) { p.Objects[0].Align = 8 },
		func(p *api.TacProg) { p.Objects[0].Data.Bytes[5] = 1 },
		func(p *api.TacProg) { p.Objects[0].Data.Relocs[0].Off = 2 },
		func(p *api.TacProg) { p.Objects[0].Data.Relocs[0].Global = 1 },
		func(p *api.TacProg) { p.Objects[0].Data.Relocs[0].Add = -1 },
		func(p *api.TacProg) { p.Objects = make([]api.TacObject, 257) },
		func(p *api.TacProg) { p.Funcs[0].Temps = 1 },
		func(p *api.TacProg) { p.Funcs[0].Temps = 1 << 40 },
		func(p *api.TacProg) { p.Funcs[0].Temps = math.MinInt },
		func(p *api.TacProg) { p.Funcs[1].Params = 0 },
		func(p *api.TacProg) { p.Funcs[1].Params = 9 },
		func(p *api.TacProg) { p.Funcs[1].Gives = false },
		func(p *api.TacProg) { p.Funcs[1].Name = "main" },
		func(p *api.TacProg) { p.Funcs[0].Slots = nil },
		func(p *api.TacProg) { p.Funcs[0].Slots[0].Size = 16385 },
		func(p *api.TacProg) { p.Funcs[0].Slots[0].Align = 0 },
		func(p *api.TacProg) { p.Funcs[0].Code = nil },
		func(p *api.TacProg) { p.Funcs[0].Code = p.Funcs[0].Code[:5] },
		func(p *api.TacProg) { p.Funcs[0].Code[0].N = 1 },
		func(p *api.TacProg) { p.Funcs[0].Code[0].Off = 5 },
		func(p *api.TacProg) { p.Funcs[0].Code[0].D = -1 },
		func(p *api.TacProg) { p.Funcs[0].Code[0].D = 2 },
		func(p *api.TacProg) { p.Funcs[0].Code[1].D = 0 },
		func(p *api.TacProg) { p.Funcs[0].Code[1].A = api.Arg{} },
		func(p *api.TacProg) { p.Funcs[0].Code[1].A.N = math.MaxUint32 },
		func(p *api.TacProg) { p.Funcs[0].Code[1].B.Kind = 3 },
		func(p *api.TacProg) { p.Funcs[0].Code[2].Args = nil },
		func(p *api.TacProg) { p.Funcs[0].Code[2].N = 2 },
		func(p *api.TacProg) { p.Funcs[0].Code[3].N = 6 },
		func(p *api.TacProg) { p.Funcs[0].Code[3].N = -1 },
	}
	for _, op := range []api.TacOp{0, 15, -1, math.MaxInt, math.MinInt} {
		turns = append(turns, func(p *api.TacProg) { p.Funcs[0].Code[4].Op = op })
	}
	list := []api.TacProg{{}}
	for _, turn := range turns {
		p := copied(base)
		turn(&p)
		list = append(list, p)
	}
	return list
}

// TestP14_1Wrong: what layer 13 does not take is refused, also where the fuel is none, and where a run would not come to it.
func TestP14_1Wrong(t *testing.T) {
	for _, p := range wrongPrograms(t) {
		for _, fuel := range append(noFuels(), 1, 50, api.MaxFuel) {
			refused(t, p, fuel, api.ErrTac)
		}
	}
}

// TestP14_1Exit: a run ends by a TacExit wherever that stands, with its number as a signed one.
func TestP14_1Exit(t *testing.T) {
	for n, code := range map[string]int{
		"0": 0, "1": 1, "255": 255, "256": 256, "65536": 65536, "2147483647": math.MaxInt32, "2147483648": math.MinInt32, "2147483649": math.MinInt32 + 1, "4294967294": -2, "4294967295": -1,
	} {
		runs(t,
			exits("exit #"+n, code),
			exits("mov t3 #"+n+"; exit t3; put #65; ret #1", code),
			exits("ret #"+n, code),
			exits("mov t3 #"+n+"; ret t3; put #65; exit #1", code),
			sample{text: lined("func f 1 1; put #66; exit t0; func main 0 0; call - 0 #" + n + "; put #65; ret; main 1"), stop: api.StopExit, code: code, out: "B"},
			sample{text: lined("func f 1 1; exit t0; func g 1 2 gives; call - 0 t0; ret #5; func main 0 1 gives; call t0 1 #" + n + "; ret t0; main 2"), stop: api.StopExit, code: code},
			sample{text: lined("func f 0 0 gives; ret #" + n + "; func main 0 1 gives; call t0 0; ret t0; main 1"), stop: api.StopExit, code: code},
		)
	}
	runs(t,
		undefined("exit t0"),
		undefined("mov t0 t1; exit t0"),
		undefined("slot 1 1; addr t0 0 0; exit t0"),
		sample{text: inMain("object x 4 4", "glob t0 0 4; exit t0"), stop: api.StopUndef},
		sample{text: lined("func f 0 1; put #65; exit t0; func main 0 0; call - 0; ret; main 1"), stop: api.StopUndef, out: "A"},
	)
}

// TestP14_1MainsEnd: the TacRet of the call with which the run began ends the run: with its number, or 0, if there is none.
func TestP14_1MainsEnd(t *testing.T) {
	runs(t,
		sample{text: lined("func main 0 0; ret; main 0"), stop: api.StopExit},
		sample{text: lined("func main 0 1; mov t0 #9; ret; main 0"), stop: api.StopExit},
		sample{text: lined("func main 0 1; slot 4 4; addr t0 0 0; ret; main 0"), stop: api.StopExit},
		sample{text: lined("func main 0 2; mov t1 t0; ret; main 0"), stop: api.StopExit},
		sample{text: lined("func f 0 0 gives; ret #8; func main 0 0; call - 0; ret; main 1"), stop: api.StopExit},
		undefined("ret t0"),
		undefined("mov t1 t0; ret t1"),
		undefined("slot 4 4; addr t0 0 0; ret t0"),
		undefined("slot 4 4; addr t0 0 4; put #0; ret t0").with("\x00"),
		sample{text: inMain("object x 4 4", "glob t0 0 0; ret t0"), stop: api.StopUndef},
		sample{text: inMain("object x 4 4; reloc 0 0 0", "glob t0 0 0; load t0 t0 0 4; ret t0"), stop: api.StopUndef},
		sample{text: lined("func other 0 0 gives; ret #1; func main 0 0 gives; ret #2; main 0"), stop: api.StopExit, code: 1},
		sample{text: lined("func other 0 0 gives; ret #1; func main 0 0 gives; ret #2; main 1"), stop: api.StopExit, code: 2},
	)
}

// TestP14_1MainWithin: a Main that is called by the program ends as any other function does.
func TestP14_1MainWithin(t *testing.T) {
	const count = "object n 4 4; func main 0 3 gives; glob t0 0 0; load t1 t0 0 4; add t2 t1 #1; store t0 0 t2 4; ltu t2 t1 #3; branch t2 8; put #46; ret %; call t1 0; put #33; "
	runs(t,
		sample{text: lined(strings.Replace(count, "%", "#10", 1) + "add t1 t1 #1; ret t1; main 0"), stop: api.StopExit, code: 13, out: ".!!!"},
		sample{text: lined(strings.Replace(count, "%", "t0", 1) + "ret #4; main 0"), stop: api.StopExit, code: 4, out: ".!!!"}, // a pointer is handed on
		sample{text: lined(strings.Replace(count, "%", "t0", 1) + "ret t1; main 0"), stop: api.StopUndef, out: ".!!!"},
		sample{text: lined("object n 4 4; func main 0 2 gives; glob t0 0 0; load t1 t0 0 4; branch t1 7; store t0 0 #1 4; call t1 0; mov t1 #6; ret t1; ret t1; main 0"), stop: api.StopExit, code: 6},
		sample{text: lined("object n 4 4; func main 0 4 gives; glob t0 0 0; load t1 t0 0 4; branch t1 7; store t0 0 #1 4; call t1 0; mov t2 t1; ret #6; ret t3; main 0"), stop: api.StopExit, code: 6}, // what is not set is handed on
		sample{text: lined("object n 4 4; func main 0 4 gives; glob t0 0 0; load t1 t0 0 4; branch t1 7; store t0 0 #1 4; call t1 0; put t1; ret #6; ret t3; main 0"), stop: api.StopUndef},
	)
}

// with is the sample with something put out.
func (s sample) with(out string) sample {
	s.out = out
	return s
}

// TestP14_1Others: beside the other stops the code is 0, and what was put out stays.
func TestP14_1Others(t *testing.T) {
	runs(t,
		stops("put #120; mov t1 #5; divs t0 t1 #0; put #121; ret #3", api.StopZero).with("x"),
		stops("put #120; put t0; put #121; ret #3", api.StopUndef).with("x"),
		stops("put #120; call t0 0; put #121; ret #3", api.StopDeep).with(strings.Repeat("x", 64)),
		stops("put #120; put #121; jump 2", api.StopFuel).with("xy"),
	)
}

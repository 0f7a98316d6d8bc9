package tacrun

import "mortise/api"

// thing is a value of the second telling: nothing that was set, a number from 0 to 2^32 - 1, or a pointer to byte n of a room.
type thing struct {
	sort string // "", "number" or "pointer"
	n    int64
	room *room
}

// room is a block of the second telling; it is its own number.
type room struct {
	ended bool
	align int64
	bytes []piece
}

// piece is a byte of a room: nothing that was set, a byte, or a part of a pointer.
type piece struct {
	of   thing
	part int
}

// frame is a call of the second telling.
type frame struct {
	f     api.TacFunc
	temps []thing
	slots []*room
	at    int
	back  int // the temporary of the caller that gets what it returns, or -1
}

// teller is a second telling of the chapter, and of what it takes from layers 1 and 11: it knows neither package, has no panics and no recursion, makes every slot at once, and goes on step by step.
type teller struct {
	p       api.TacProg
	objects []*room
	stack   []*frame
	live    int
	input   []byte
	fuel    int
	o       api.Outcome
	done    map[api.TacOp]int // how many instructions were done
	read    int               // how many bytes of the input were read, or asked for behind its end
}

// tell is the outcome of a run as the second telling has it.
func tell(p api.TacProg, input []byte, fuel int) api.Outcome { return newTeller(p, input, fuel).all() }

// newTeller makes a teller that has not begun.
func newTeller(p api.TacProg, input []byte, fuel int) *teller {
	return &teller{p: p, input: input, fuel: fuel, done: map[api.TacOp]int{}}
}

// all tells the whole run.
func (w *teller) all() api.Outcome {
	for _, o := range w.p.Objects {
		w.objects = append(w.objects, w.newRoom(o.Size, o.Align))
	}
	for i, o := range w.p.Objects {
		for j, b := range o.Data.Bytes {
			w.objects[i].bytes[j] = piece{of: thing{sort: "number", n: int64(b)}}
		}
		for _, r := range o.Data.Relocs {
			for part := range 4 {
				w.objects[i].bytes[r.Off+part] = piece{thing{"pointer", int64(r.Add), w.objects[r.Global]}, part}
			}
		}
	}
	w.enter(w.p.Main, nil, -1)
	for w.o.Stop == 0 {
		w.step()
	}
	return w.o
}

// newRoom makes a room.
func (w *teller) newRoom(size, align int) *room {
	w.live++
	return &room{align: int64(align), bytes: make([]piece, size)}
}

// enter begins a call.
func (w *teller) enter(n int, args []thing, back int) {
	f := w.p.Funcs[n]
	if len(w.stack) >= 64 {
		w.o.Stop = api.StopDeep
		return
	}
	c := &frame{f: f, temps: make([]thing, f.Temps), back: back}
	copy(c.temps, args)
	for _, s := range f.Slots {
		if w.live >= 4096 {
			w.o.Stop = api.StopDeep
			return
		}
		c.slots = append(c.slots, w.newRoom(s.Size, s.Align))
	}
	w.stack = append(w.stack, c)
}

// leave ends a call.
func (w *teller) leave(v thing) {
	c := w.stack[len(w.stack)-1]
	w.stack = w.stack[:len(w.stack)-1]
	for _, r := range c.slots {
		r.ended = true
		w.live--
	}
	if len(w.stack) == 0 {
		if !c.f.Gives {
			v = thing{sort: "number"}
		}
		w.exit(v)
	} else if c.back >= 0 {
		w.stack[len(w.stack)-1].temps[c.back] = v
	}
}

// exit ends the run with a number.
func (w *teller) exit(v thing) {
	if v.sort != "number" {
		w.o.Stop = api.StopUndef
		return
	}
	w.o.Stop = api.StopExit
	w.o.Code = int(signed(v.n))
}

// step does one instruction.
func (w *teller) step() {
	c := w.stack[len(w.stack)-1]
	x := c.f.Code[c.at]
	need := 1
	if x.Op == api.TacCopy {
		need += x.Off
	}
	for range need {
		if w.o.Steps == w.fuel {
			w.o.Stop = api.StopFuel
			return
		}
		w.o.Steps++
	}
	c.at++
	w.done[x.Op]++
	if a, b := w.value(c, x.A), w.value(c, x.B); x.Op == api.TacMov {
		c.temps[x.D] = a
	} else if x.Op == api.TacRet {
		w.leave(a)
	} else if x.A.Kind == api.ArgTemp && a.sort == "" || x.B.Kind == api.ArgTemp && b.sort == "" {
		w.o.Stop = api.StopUndef
	} else {
		w.do(c, x, a, b)
	}
}

// value is what an operand has.
func (w *teller) value(c *frame, a api.Arg) thing {
	switch a.Kind {
	case api.ArgTemp:
		return c.temps[a.N]
	case api.ArgConst:
		return thing{sort: "number", n: int64(a.N)}
	}
	return thing{}
}

// do does an instruction whose operands are set.
func (w *teller) do(c *frame, x api.Ins, a, b thing) {
	switch x.Op {
	case api.TacBin:
		c.temps[x.D] = w.bin(x.Bin, a, b)
	case api.TacSlot:
		c.temps[x.D] = thing{"pointer", int64(x.Off), c.slots[x.N]}
	case api.TacGlobal:
		c.temps[x.D] = thing{"pointer", int64(x.Off), w.objects[x.N]}
	case api.TacLoad:
		c.temps[x.D] = w.load(moved(a, x.Off), x.Width, x.Signed)
	case api.TacStore:
		w.store(moved(a, x.Off), x.Width, b)
	case api.TacCopy:
		w.copyTo(a, b, x.Off, x.Width)
	case api.TacCall:
		var args []thing
		for _, arg := range x.Args {
			args = append(args, w.value(c, arg))
		}
		w.enter(x.N, args, x.D)
	case api.TacJump:
		c.at = x.N
	case api.TacBranch:
		if a.sort == "pointer" && !good(a) {
			w.o.Stop = api.StopUndef
		} else if a.sort == "pointer" || a.n != 0 {
			c.at = x.N
		}
	case api.TacPut:
		if a.sort == "pointer" {
			w.o.Stop = api.StopUndef
			return
		}
		w.o.Out = append(w.o.Out, byte(a.n%256))
	case api.TacGet:
		c.temps[x.D] = thing{sort: "number", n: 1<<32 - 1}
		if w.read < len(w.input) {
			c.temps[x.D].n = int64(w.input[w.read])
		}
		w.read++
	case api.TacExit:
		w.exit(a)
	}
}

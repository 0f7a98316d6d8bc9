package lower

import (
	"mortise/api"
	"mortise/word"
)

// draft is a function as far as it has been written. Its jumps go to labels until it is done.
type draft struct {
	api.TacFunc
	stack  []int // the temporaries that are taken again and again, in the order in which they are held
	held   int   // how many of them are held now
	labels []int // of each label the instruction ahead of which it stands
}

// maxOnce is up to how many temporaries a function has some that are written once.
const maxOnce = api.MaxTemps / 2

// number is a number as an operand.
func number(v uint32) api.Arg { return api.Arg{Kind: api.ArgConst, N: v} }

// temporary is a temporary as an operand.
func temporary(n int) api.Arg { return api.Arg{Kind: api.ArgTemp, N: uint32(n)} }

// fresh is a temporary that nothing has been written into.
func (d *draft) fresh() int {
	d.Temps++
	return d.Temps - 1
}

// temp holds one more temporary. It is given back when held is put down again.
func (d *draft) temp() api.Arg {
	if d.held == len(d.stack) {
		d.stack = append(d.stack, d.fresh())
	}
	d.held++
	return temporary(d.stack[d.held-1])
}

// once is a temporary that nothing else is written into, as long as there are enough: layer 17 looks for such addresses.
func (d *draft) once() api.Arg {
	if d.Temps < maxOnce {
		return temporary(d.fresh())
	}
	return d.temp()
}

// write adds an instruction that gives nothing.
func (d *draft) write(x api.Ins) {
	x.D = -1
	d.Code = append(d.Code, x)
}

// gain adds an instruction that gives a temporary something, and answers the temporary.
func (d *draft) gain(to api.Arg, x api.Ins) api.Arg {
	x.D = int(to.N)
	d.Code = append(d.Code, x)
	return to
}

// move gives a temporary what an operand has.
func (d *draft) move(to, v api.Arg) { d.gain(to, api.Ins{Op: api.TacMov, A: v}) }

// reckon is what an operation makes of two operands. From low on no temporary is held but by them, and none but by what comes is held behind it.
func (d *draft) reckon(low int, op api.BinOp, a, b api.Arg) api.Arg {
	d.held = low
	if a.Kind == api.ArgConst && b.Kind == api.ArgConst {
		if v, ok := word.Bin(op, a.N, b.N); ok {
			return number(v)
		}
	}
	return d.gain(d.temp(), api.Ins{Op: api.TacBin, Bin: op, A: a, B: b})
}

// label makes a label that does not stand anywhere yet.
func (d *draft) label() int {
	d.labels = append(d.labels, 0)
	return len(d.labels) - 1
}

// put makes a label stand ahead of what is written next.
func (d *draft) put(label int) { d.labels[label] = len(d.Code) }

// jump goes on at a label.
func (d *draft) jump(label int) { d.write(api.Ins{Op: api.TacJump, N: label}) }

// branch goes on at a label, if an operand is not 0.
func (d *draft) branch(v api.Arg, label int) {
	d.write(api.Ins{Op: api.TacBranch, A: v, N: label})
}

// settle makes jumps go to instructions.
func (d *draft) settle() {
	for i := range d.Code {
		if x := &d.Code[i]; x.Op == api.TacJump || x.Op == api.TacBranch {
			x.N = d.labels[x.N]
		}
	}
}

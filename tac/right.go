package tac

import (
	"mortise/api"
	"mortise/word"
)

// home is where an instruction stands: in a function of a program.
type home struct {
	prog api.TacProg
	fn   api.TacFunc
}

// right tells whether an instruction has what its row names, and nothing else.
func (h home) right(x api.Ins) bool { return h.holds(x) && bare(x) }

// holds tells whether what its row names is as the row says. The cases stand as the rows of P13.1 do.
func (h home) holds(x api.Ins) bool {
	switch x.Op {
	case api.TacMov:
		return h.temp(x.D) && h.operand(x.A)
	case api.TacBin:
		return h.temp(x.D) && word.Name(x.Bin) != "" && h.operand(x.A) && h.operand(x.B)
	case api.TacSlot:
		return h.temp(x.D) && isNumber(x.N, len(h.fn.Slots)) && within(x.Off, 0, h.fn.Slots[x.N].Size)
	case api.TacGlobal:
		return h.temp(x.D) && isNumber(x.N, len(h.prog.Objects)) && within(x.Off, 0, h.prog.Objects[x.N].Size)
	case api.TacLoad:
		return h.temp(x.D) && h.operand(x.A) && reaches(x) && !(x.Signed && x.Width == 4)
	case api.TacStore:
		return h.operand(x.A) && h.operand(x.B) && reaches(x)
	case api.TacCopy:
		return h.operand(x.A) && h.operand(x.B) && isWidth(x.Width) && within(x.Off, 1, api.MaxSize) && x.Off%x.Width == 0
	case api.TacCall:
		return isNumber(x.N, len(h.prog.Funcs)) && h.calls(x, h.prog.Funcs[x.N])
	case api.TacRet:
		return h.returns(x.A)
	case api.TacJump:
		return h.place(x.N)
	case api.TacBranch:
		return h.place(x.N) && h.operand(x.A)
	case api.TacPut, api.TacExit:
		return h.operand(x.A)
	case api.TacGet:
		return h.temp(x.D)
	}
	return false
}

// temp tells whether n is a temporary's number.
func (h home) temp(n int) bool { return isNumber(n, h.fn.Temps) }

// operand tells whether an operand is a temporary or a number.
func (h home) operand(a api.Arg) bool {
	return a.Kind == api.ArgConst || a.Kind == api.ArgTemp && uint64(a.N) < uint64(h.fn.Temps)
}

// place tells whether n is an instruction's number.
func (h home) place(n int) bool { return isNumber(n, len(h.fn.Code)) }

// reaches tells whether the Off and the Width of a load or a store may be.
func reaches(x api.Ins) bool {
	return within(x.Off, -api.MaxSize, api.MaxSize) && isWidth(x.Width)
}

// calls tells whether a call fits the function that it calls.
func (h home) calls(x api.Ins, callee api.TacFunc) bool {
	if len(x.Args) != callee.Params {
		return false
	}
	for _, a := range x.Args {
		if !h.operand(a) {
			return false
		}
	}
	return x.D == -1 || callee.Gives && h.temp(x.D)
}

// returns tells whether a return fits its function.
func (h home) returns(a api.Arg) bool {
	if h.fn.Gives {
		return h.operand(a)
	}
	return a == api.Arg{}
}

// bare tells whether all that an instruction's row does not name is zero. It has a row.
func bare(x api.Ins) bool {
	for _, field := range forms[x.Op].fields {
		clearField(&x, field)
	}
	if x.Op == api.TacBin {
		x.Bin = 0
	}
	none := api.Arg{}
	return x.Bin == 0 && x.D == -1 && x.A == none && x.B == none && x.N == 0 && x.Off == 0 && x.Width == 0 && !x.Signed && len(x.Args) == 0
}

// clearField takes a field that its row names out of an instruction.
func clearField(x *api.Ins, field rune) {
	switch field {
	case 'D', 'T':
		x.D = -1
	case 'A', 'R':
		x.A = api.Arg{}
	case 'B':
		x.B = api.Arg{}
	case 'N':
		x.N = 0
	case 'O':
		x.Off = 0
	case 'W':
		x.Width = 0
	case 'S':
		x.Signed = false
	case 'L':
		x.Args = nil
	}
}

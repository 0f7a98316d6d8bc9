package sroa

import (
	"slices"

	"mortise/api"
)

// splitter writes a function's code anew, with pieces as temporaries.
type splitter struct {
	*frame
	gone  []bool        // by slot: it is split
	temps map[piece]int // the temporaries that pieces have become
	code  []api.Ins
}

// split is a function whose slots that do not escape are named no more.
func split(f api.TacFunc) api.TacFunc {
	s := splitter{frame: frameOf(f), gone: make([]bool, len(f.Slots)), temps: map[piece]int{}}
	for _, n := range s.splits() {
		s.gone[n] = true
	}
	begins := make([]int, len(f.Code))
	for i, x := range f.Code {
		begins[i] = len(s.code)
		s.write(x)
	}
	for i, x := range s.code {
		if x.Op == api.TacJump || x.Op == api.TacBranch {
			s.code[i].N = begins[x.N]
		}
	}
	f.Temps += len(s.temps)
	f.Slots = slices.Clone(f.Slots)
	f.Code = s.code
	return f
}

// write puts down what becomes of an instruction. Addresses of what is split are left out, since nothing reads them any more; so a function has the same last instruction, and what leads to them leads to what is behind them.
func (s *splitter) write(x api.Ins) {
	p, ok := s.pieceOf(x)
	switch {
	case x.Op == api.TacSlot && s.gone[x.N]:
	case !ok || !s.gone[p.at.slot]:
		x.Args = slices.Clone(x.Args)
		s.code = append(s.code, x)
	case x.Op == api.TacStore:
		s.move(s.tempOf(p), x.B)
	default:
		s.load(x, s.tempOf(p))
	}
}

// tempOf is the temporary that a piece becomes.
func (s *splitter) tempOf(p piece) int {
	if t, ok := s.temps[p]; ok {
		return t
	}
	t := s.fn.Temps + len(s.temps)
	s.temps[p] = t
	return t
}

// load reads a piece. A temporary has all that was stored, as memory has not: what is narrower is cut here, since one piece may be loaded signed and not.
func (s *splitter) load(x api.Ins, from int) {
	piece, bits := temp(from), 8*uint32(x.Width)
	switch {
	case x.Width == 4:
		s.move(x.D, piece)
	case x.Signed:
		s.bin(api.OpShl, x.D, piece, 32-bits)
		s.bin(api.OpShrS, x.D, temp(x.D), 32-bits)
	default:
		s.bin(api.OpAnd, x.D, piece, 1<<bits-1)
	}
}

func (s *splitter) move(d int, a api.Arg) {
	s.code = append(s.code, api.Ins{Op: api.TacMov, D: d, A: a})
}

func (s *splitter) bin(op api.BinOp, d int, a api.Arg, n uint32) {
	s.code = append(s.code, api.Ins{Op: api.TacBin, Bin: op, D: d, A: a, B: api.Arg{Kind: api.ArgConst, N: n}})
}

// temp is the operand that is a temporary.
func temp(t int) api.Arg { return api.Arg{Kind: api.ArgTemp, N: uint32(t)} }

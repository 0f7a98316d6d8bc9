package tac

import (
	"math"
	"regexp"
	"slices"
	"strings"

	"mortise/api"
)

// judge tells P13.1 a second time: of each row, which fields it names, and of each field, what it may be there.
type judge struct {
	p api.TacProg
	f api.TacFunc
}

var tagForm = regexp.MustCompile(`\A([A-Za-z_][A-Za-z0-9_]{0,62}|#[0-9]{1,9})\z`)

// fieldsOf are the fields that each row names.
func fieldsOf(op api.TacOp) string {
	return map[api.TacOp]string{
		api.TacMov: "D A", api.TacBin: "D Bin A B", api.TacSlot: "D N Off", api.TacGlobal: "D N Off", api.TacLoad: "D A Off Width Signed",
		api.TacStore: "A B Off Width", api.TacCopy: "A B Width Off", api.TacCall: "D N Args", api.TacRet: "A", api.TacJump: "N", api.TacBranch: "N A",
		api.TacPut: "A", api.TacGet: "D", api.TacExit: "A",
	}[op]
}

// program tells whether all of P13.1 holds.
func (j judge) program() bool {
	names := map[string]int{}
	for _, f := range j.p.Funcs {
		names[f.Name]++
		if j.f = f; names[f.Name] > 1 || !j.function() {
			return false
		}
	}
	for i := range j.p.Objects {
		if !j.object(i) {
			return false
		}
	}
	n := len(j.p.Funcs)
	return len(j.p.Objects) <= 256 && n > 0 && n <= 64 && j.p.Main >= 0 && j.p.Main < n && j.p.Funcs[j.p.Main].Params == 0
}

// object tells whether an object may be.
func (j judge) object(i int) bool {
	o := j.p.Objects[i]
	if !tagForm.MatchString(o.Name) || !j.room(o.Size, o.Align) || len(o.Data.Bytes) != o.Size {
		return false
	}
	for k, r := range o.Data.Relocs {
		if k > 0 && r.Off < o.Data.Relocs[k-1].Off+4 {
			return false
		}
		if r.Off < 0 || r.Off > o.Size-4 || r.Off&3 != 0 || o.Align < 4 || r.Global < 0 || r.Global >= len(j.p.Objects) {
			return false
		}
		if r.Add < 0 || r.Add > j.p.Objects[r.Global].Size || string(o.Data.Bytes[r.Off:r.Off+4]) != "\x00\x00\x00\x00" {
			return false
		}
	}
	return true
}

// room tells whether a size and an alignment may be.
func (j judge) room(size, align int) bool {
	return size > 0 && size < 16385 && slices.Contains([]int{1, 2, 4}, align)
}

// function tells whether a function may be.
func (j judge) function() bool {
	f := j.f
	if !tagForm.MatchString(f.Name) || f.Params < 0 || f.Params > 8 || f.Params > f.Temps || f.Temps > 4096 || len(f.Slots) > 256 || len(f.Code) > 16384 {
		return false
	}
	for _, s := range f.Slots {
		if !j.room(s.Size, s.Align) {
			return false
		}
	}
	last := api.Ins{}
	for _, x := range f.Code {
		if last = x; !j.right(x) {
			return false
		}
	}
	return last.Op == api.TacRet || last.Op == api.TacJump || last.Op == api.TacExit
}

// right tells whether an instruction is.
func (j judge) right(x api.Ins) bool {
	if x.Op < 1 || x.Op > 14 {
		return false
	}
	named := strings.Fields(fieldsOf(x.Op))
	for _, field := range []string{"N", "Bin", "D", "A", "B", "Width", "Off", "Signed", "Args"} {
		holds := j.zero
		if slices.Contains(named, field) {
			holds = j.may
		}
		if !holds(x, field) {
			return false
		}
	}
	return true
}

// zero tells whether a field has nothing.
func (j judge) zero(x api.Ins, field string) bool {
	switch field {
	case "Bin":
		return x.Bin == 0
	case "D":
		return x.D == -1
	case "A":
		return x.A == api.Arg{}
	case "B":
		return x.B == api.Arg{}
	case "N":
		return x.N == 0
	case "Off":
		return x.Off == 0
	case "Width":
		return x.Width == 0
	case "Signed":
		return !x.Signed
	}
	return len(x.Args) == 0
}

// may tells whether a field that the row names is as it says. N and Width have been asked ahead of the others.
func (j judge) may(x api.Ins, field string) bool {
	switch field {
	case "Bin":
		return x.Bin > 0 && x.Bin < 20
	case "D":
		return x.D >= 0 && x.D < j.f.Temps && (x.Op != api.TacCall || j.p.Funcs[x.N].Gives) || x.Op == api.TacCall && x.D == -1
	case "A":
		if x.Op == api.TacRet && !j.f.Gives {
			return j.zero(x, "A")
		}
		return j.operand(x.A)
	case "B":
		return j.operand(x.B)
	case "N":
		return x.N >= 0 && x.N < j.count(x.Op)
	case "Off":
		return j.off(x)
	case "Width":
		return x.Width == 1 || x.Width == 2 || x.Width == 4
	case "Signed":
		return !x.Signed || x.Width < 4
	}
	return len(x.Args) == j.p.Funcs[x.N].Params && !slices.ContainsFunc(x.Args, func(a api.Arg) bool { return !j.operand(a) })
}

// operand tells whether an operand is a temporary or a number.
func (j judge) operand(a api.Arg) bool {
	switch a.Kind {
	case api.ArgTemp:
		return int(a.N) < j.f.Temps
	case api.ArgConst:
		return true
	}
	return false
}

// count is how many things there are of which N may be the number.
func (j judge) count(op api.TacOp) int {
	switch op {
	case api.TacSlot:
		return len(j.f.Slots)
	case api.TacGlobal:
		return len(j.p.Objects)
	case api.TacCall:
		return len(j.p.Funcs)
	}
	return len(j.f.Code)
}

// off tells whether Off may be.
func (j judge) off(x api.Ins) bool {
	least, most, step := 0, 0, 1
	switch x.Op {
	case api.TacSlot:
		most = j.f.Slots[x.N].Size
	case api.TacGlobal:
		most = j.p.Objects[x.N].Size
	case api.TacCopy:
		least, most, step = 1, 16384, x.Width
	default:
		least, most = -16384, 16384
	}
	return x.Off >= least && x.Off <= most && x.Off%step == 0
}

// judged is what P13.1 says of a program.
func judged(p api.TacProg) bool { return judge{p: p}.program() }

// longest is how many bytes a text may have.
const longest = 1 << 20

// strangeNumbers are numbers that are edges somewhere.
func strangeNumbers() []int {
	return append(far(), -16384, -9, -8, -4, -3, -1, 0, 1, 2, 3, 4, 5, 7, 8, 9, 12, 14, 15, 16, 19, 20, 63, 64, 65, 255, 256, 257, 4095, 4096, 4097, 16380, 16383, 16384, math.MaxUint32)
}

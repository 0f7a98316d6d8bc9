package tac

import (
	"mortise/api"
	"mortise/ctype"
)

// relocBytes is how many bytes an address has.
const relocBytes = 4

// within tells whether a number is from least to most.
func within(n, least, most int) bool { return least <= n && n <= most }

// isNumber tells whether n is the number of one of so many things.
func isNumber(n, count int) bool { return within(n, 0, count-1) }

// isWidth tells whether an access may have so many bytes, and so whether an object may be aligned to them.
func isWidth(n int) bool { return n == 1 || n == 2 || n == 4 }

// roomHolds tells whether an object, of static storage or of a frame, may have that size and alignment.
func roomHolds(size, align int) bool { return within(size, 1, api.MaxSize) && isWidth(align) }

// objectsHold tells whether objects are as P13.1 says.
func objectsHold(all []api.TacObject) bool {
	if len(all) > api.MaxGlobals {
		return false
	}
	for _, o := range all {
		if !ctype.Tag(o.Name) || !roomHolds(o.Size, o.Align) || len(o.Data.Bytes) != o.Size || !relocsHold(all, o) {
			return false
		}
	}
	return true
}

// relocsHold tells whether the relocations of an object are as P13.1 says. Its size and its bytes have been found right.
func relocsHold(all []api.TacObject, o api.TacObject) bool {
	free := 0 // the first byte that no relocation has yet
	for _, r := range o.Data.Relocs {
		if o.Align != relocBytes || !within(r.Off, free, o.Size-relocBytes) || r.Off%relocBytes != 0 {
			return false
		}
		if !isNumber(r.Global, len(all)) || !within(r.Add, 0, all[r.Global].Size) {
			return false
		}
		free = r.Off + relocBytes
		if filled(o.Data.Bytes[r.Off:free]) > 0 {
			return false
		}
	}
	return true
}

// filled is how many bytes there are up to the last one that is not 0.
func filled(b []byte) int {
	n := len(b)
	for n > 0 && b[n-1] == 0 {
		n--
	}
	return n
}

// functionsHold tells whether a program's functions are as P13.1 says.
func functionsHold(p api.TacProg) bool {
	if !within(len(p.Funcs), 1, api.MaxFuncs) {
		return false
	}
	owners := map[string]int{}
	for i, f := range p.Funcs {
		if _, taken := owners[f.Name]; taken || !ctype.Tag(f.Name) || !frameHolds(f) || !codeHolds(p, f) {
			return false
		}
		owners[f.Name] = i
	}
	return true
}

// frameHolds tells whether what a function has besides its code is as P13.1 says.
func frameHolds(f api.TacFunc) bool {
	if !within(f.Params, 0, api.MaxArgs) || !within(f.Temps, f.Params, api.MaxTemps) || len(f.Slots) > api.MaxSlots {
		return false
	}
	for _, s := range f.Slots {
		if !roomHolds(s.Size, s.Align) {
			return false
		}
	}
	return true
}

// codeHolds tells whether a function's code is as P13.1 says.
func codeHolds(p api.TacProg, f api.TacFunc) bool {
	if !within(len(f.Code), 1, api.MaxCode) || !endsCode(f.Code[len(f.Code)-1].Op) {
		return false
	}
	h := home{p, f}
	for _, x := range f.Code {
		if !h.right(x) {
			return false
		}
	}
	return true
}

// endsCode tells whether code may have such an instruction for its last one: what never goes on to the next.
func endsCode(op api.TacOp) bool {
	return op == api.TacRet || op == api.TacJump || op == api.TacExit
}

// mainHolds tells whether a program begins with a function that may be called without arguments.
func mainHolds(p api.TacProg) bool {
	return isNumber(p.Main, len(p.Funcs)) && p.Funcs[p.Main].Params == 0
}

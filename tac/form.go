package tac

import (
	"mortise/api"
	"mortise/word"
)

// form is how an instruction is written: the word that stands first (of a TacBin the operation's name stands there), and the fields that follow, in order. They are just the fields that the row of P13.1 names.
//
// D, A, B and N are the fields of these names, O is Off, W is Width. T is D that may be -1, R is A that may be none. S is Signed, L are Args; R, S and L stand last, and may be no word at all.
type form struct {
	word   string
	fields string
}

// forms has the forms of all instructions, at the numbers of their Op.
var forms = [...]form{
	api.TacMov:    {"mov", "DA"},
	api.TacBin:    {"", "DAB"},
	api.TacSlot:   {"addr", "DNO"},
	api.TacGlobal: {"glob", "DNO"},
	api.TacLoad:   {"load", "DAOWS"},
	api.TacStore:  {"store", "AOBW"},
	api.TacCopy:   {"copy", "ABOW"},
	api.TacCall:   {"call", "TNL"},
	api.TacRet:    {"ret", "R"},
	api.TacJump:   {"jump", "N"},
	api.TacBranch: {"branch", "AN"},
	api.TacPut:    {"put", "A"},
	api.TacGet:    {"get", "D"},
	api.TacExit:   {"exit", "A"},
}

// operations has, by the word that stands first, what is known of an instruction behind it.
func operations() map[string]api.Ins {
	m := map[string]api.Ins{}
	for op := api.TacMov; op <= api.TacExit; op++ {
		if op != api.TacBin {
			m[forms[op].word] = api.Ins{Op: op, D: -1}
		}
	}
	for bin := api.OpAdd; bin <= api.OpLeU; bin++ {
		m[word.Name(bin)] = api.Ins{Op: api.TacBin, Bin: bin, D: -1}
	}
	return m
}

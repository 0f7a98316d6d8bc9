package tac

import (
	"strconv"
	"strings"

	"mortise/api"
)

// reader goes through a text line by line, and through each line word by word.
type reader struct {
	lines      []string           // from the next line on
	words      []string           // what is left of the line that is read
	operations map[string]api.Ins // by the word that an instruction begins with
}

// refusal is what a reader panics with.
type refusal struct{}

// want gives up, unless something holds.
func want(holds bool) {
	if !holds {
		panic(refusal{})
	}
}

// attempt reads a text that is written as programs are, and tells whether it is so. Whether the program may be is left to Check.
func attempt(s string) (p api.TacProg, ok bool) {
	defer func() {
		switch e := recover().(type) {
		case nil:
		case refusal:
			p, ok = api.TacProg{}, false
		default:
			panic(e)
		}
	}()
	body, ended := strings.CutSuffix(s, "\n")
	want(ended && len(s) <= maxPrint)
	r := &reader{lines: strings.Split(body, "\n"), operations: operations()}
	return r.program(), true
}

// begins goes on to the next line behind its first word, if that is this one.
func (r *reader) begins(first string) bool {
	if r.first() != first {
		return false
	}
	r.words = strings.Split(r.lines[0], " ")[1:]
	r.lines = r.lines[1:]
	return true
}

// first is the first word of the next line; behind the last line there is none.
func (r *reader) first() string {
	if len(r.lines) == 0 {
		return ""
	}
	first, _, _ := strings.Cut(r.lines[0], " ")
	return first
}

// done asks that nothing is left of the line.
func (r *reader) done() { want(len(r.words) == 0) }

// word takes the next word of the line.
func (r *reader) word() string {
	want(len(r.words) > 0)
	w := r.words[0]
	r.words = r.words[1:]
	return w
}

// flag takes a word that stands last in a line, if it stands there.
func (r *reader) flag(w string) bool {
	if len(r.words) == 0 {
		return false
	}
	want(r.word() == w)
	return true
}

// number takes a number.
func (r *reader) number() int { return numberOf(r.word()) }

// numberOf is the number that a word is. That it is written back as it stands rules out noughts and a + ahead of it; whether it may be below 0 is left to Check.
func numberOf(w string) int {
	n, err := strconv.Atoi(w)
	want(err == nil && strconv.Itoa(n) == w)
	return n
}

// program reads a whole program.
func (r *reader) program() api.TacProg {
	var p api.TacProg
	for r.begins("object") {
		want(len(p.Objects) < api.MaxGlobals) // each of them takes as much room as it says, however short the text is
		p.Objects = append(p.Objects, r.object())
	}
	for r.begins("func") {
		p.Funcs = append(p.Funcs, r.function())
	}
	want(r.begins("main"))
	p.Main = r.number()
	r.done()
	want(len(r.lines) == 0)
	return p
}

// object reads an object from behind its first word on.
func (r *reader) object() api.TacObject {
	o := api.TacObject{Name: r.word(), Size: r.number(), Align: r.number()}
	r.done()
	want(roomHolds(o.Size, o.Align))
	o.Data.Bytes = make([]byte, o.Size)
	if r.begins("data") {
		r.bytes(o.Data.Bytes)
	}
	for r.begins("reloc") {
		o.Data.Relocs = append(o.Data.Relocs, api.Reloc{Off: r.number(), Global: r.number(), Add: r.number()})
		r.done()
	}
	return o
}

// bytes reads an object's first bytes, of which the last is not 0.
func (r *reader) bytes(b []byte) {
	w := r.word()
	r.done()
	n := len(w) / 2
	want(len(w)%2 == 0 && within(n, 1, len(b)))
	for i := range n {
		b[i] = byte(digit(w[2*i])<<4 | digit(w[2*i+1]))
	}
	want(b[n-1] != 0)
}

// digit is the number that a digit of a byte is.
func digit(c byte) int {
	n := strings.IndexByte(digits, c)
	want(n >= 0)
	return n
}

// function reads a function from behind its first word on.
func (r *reader) function() api.TacFunc {
	f := api.TacFunc{Name: r.word(), Params: r.number(), Temps: r.number(), Gives: r.flag("gives")}
	r.done()
	for r.begins("slot") {
		f.Slots = append(f.Slots, api.Slot{Size: r.number(), Align: r.number()})
		r.done()
	}
	for {
		x, is := r.operations[r.first()]
		if !is {
			return f
		}
		r.begins(r.first())
		f.Code = append(f.Code, r.instruction(x))
	}
}

// instruction reads the fields of an instruction.
func (r *reader) instruction(x api.Ins) api.Ins {
	for _, field := range forms[x.Op].fields {
		r.field(&x, field)
	}
	r.done()
	return x
}

// field reads one field of an instruction.
func (r *reader) field(x *api.Ins, field rune) {
	switch field {
	case 'D':
		x.D = r.temp()
	case 'T':
		x.D = r.target()
	case 'A':
		x.A = r.operand()
	case 'B':
		x.B = r.operand()
	case 'N':
		x.N = r.number()
	case 'O':
		x.Off = r.number()
	case 'W':
		x.Width = r.number()
	case 'S':
		x.Signed = r.flag("signed")
	case 'R':
		if len(r.words) > 0 {
			x.A = r.operand()
		}
	case 'L':
		for len(r.words) > 0 {
			x.Args = append(x.Args, r.operand())
		}
	}
}

// target reads what a call writes: a temporary, or nothing.
func (r *reader) target() int {
	if len(r.words) > 0 && r.words[0] == "-" {
		r.word()
		return -1
	}
	return r.temp()
}

// temp reads a temporary. One below 0 would stand for a call that writes nothing, which has a text of its own.
func (r *reader) temp() int {
	w, marked := strings.CutPrefix(r.word(), "t")
	want(marked)
	n := numberOf(w)
	want(n >= 0)
	return n
}

// operand reads an operand.
func (r *reader) operand() api.Arg {
	w := r.word()
	if number, marked := strings.CutPrefix(w, "#"); marked {
		return api.Arg{Kind: api.ArgConst, N: bitsOf(number)}
	}
	number, marked := strings.CutPrefix(w, "t")
	want(marked)
	return api.Arg{Kind: api.ArgTemp, N: bitsOf(number)}
}

// bitsOf are the 32 bits that a word is, which must be written as its number is.
func bitsOf(w string) uint32 {
	n, err := strconv.ParseUint(w, 10, 32)
	want(err == nil && strconv.FormatUint(n, 10) == w)
	return uint32(n)
}

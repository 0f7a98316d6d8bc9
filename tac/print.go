package tac

import (
	"strconv"

	"mortise/api"
	"mortise/word"
)

// maxPrint is how many bytes a program's text may have.
const maxPrint = 1 << 20

// digits are those of a byte in a text.
const digits = "0123456789abcdef"

// writer writes a program that may be.
type writer struct {
	text []byte
}

// full tells whether more was written than a text may have.
func (w *writer) full() bool { return len(w.text) > maxPrint }

// line writes words with blanks between them. What is full is refused, so nothing more is put into it.
func (w *writer) line(words ...string) {
	if w.full() {
		return
	}
	for i, s := range words {
		if i > 0 {
			w.text = append(w.text, ' ')
		}
		w.text = append(w.text, s...)
	}
	w.text = append(w.text, '\n')
}

// program writes a whole program.
func (w *writer) program(p api.TacProg) {
	for _, o := range p.Objects {
		w.object(o)
	}
	for _, f := range p.Funcs {
		w.function(f)
	}
	w.line("main", strconv.Itoa(p.Main))
}

// object writes an object of static storage.
func (w *writer) object(o api.TacObject) {
	w.line("object", o.Name, strconv.Itoa(o.Size), strconv.Itoa(o.Align))
	if n := filled(o.Data.Bytes); n > 0 {
		w.line("data", hex(o.Data.Bytes[:n]))
	}
	for _, r := range o.Data.Relocs {
		w.line("reloc", strconv.Itoa(r.Off), strconv.Itoa(r.Global), strconv.Itoa(r.Add))
	}
}

// hex writes each byte as two digits.
func hex(b []byte) string {
	var text []byte
	for _, c := range b {
		text = append(text, digits[c>>4], digits[c&15])
	}
	return string(text)
}

// function writes a function.
func (w *writer) function(f api.TacFunc) {
	head := []string{"func", f.Name, strconv.Itoa(f.Params), strconv.Itoa(f.Temps)}
	if f.Gives {
		head = append(head, "gives")
	}
	w.line(head...)
	for _, s := range f.Slots {
		w.line("slot", strconv.Itoa(s.Size), strconv.Itoa(s.Align))
	}
	for _, x := range f.Code {
		w.line(wordsOf(x)...)
	}
}

// wordsOf are the words of an instruction's line.
func wordsOf(x api.Ins) []string {
	form := forms[x.Op]
	words := []string{form.word}
	if x.Op == api.TacBin {
		words[0] = word.Name(x.Bin)
	}
	for _, field := range form.fields {
		words = append(words, fieldWords(x, field)...)
	}
	return words
}

// fieldWords are the words of a field: one, but where it may be nothing or several.
func fieldWords(x api.Ins, field rune) []string {
	switch field {
	case 'D', 'T':
		return []string{target(x.D)}
	case 'A', 'R':
		return operands(x.A)
	case 'B':
		return operands(x.B)
	case 'N':
		return []string{strconv.Itoa(x.N)}
	case 'O':
		return []string{strconv.Itoa(x.Off)}
	case 'W':
		return []string{strconv.Itoa(x.Width)}
	case 'L':
		return operands(x.Args...)
	}
	if x.Signed {
		return []string{"signed"}
	}
	return nil
}

// target writes the temporary that an instruction writes.
func target(d int) string {
	if d < 0 {
		return "-"
	}
	return "t" + strconv.Itoa(d)
}

// operands writes operands, and nothing of those that are none.
func operands(list ...api.Arg) []string {
	var words []string
	for _, a := range list {
		n := strconv.FormatUint(uint64(a.N), 10)
		switch a.Kind {
		case api.ArgTemp:
			words = append(words, "t"+n)
		case api.ArgConst:
			words = append(words, "#"+n)
		}
	}
	return words
}

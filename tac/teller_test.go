package tac

import (
	"regexp"
	"strconv"
	"strings"

	"mortise/api"
)

// lineForms tells P13.3 a second time: how each line that may stand in a text is written. N stands for a number, I for one that may be below 0, D for a temporary, A for an operand.
func lineForms() map[string]*regexp.Regexp {
	m := map[string]*regexp.Regexp{}
	forms := []string{
		`object (\S+) N N`, `data ((?:[0-9a-f]{2})*(?:[1-9a-f][0-9a-f]|0[1-9a-f]))`, `reloc N N N`, `func (\S+) N N( gives)?`, `slot N N`, `main N`,
		`mov D A`, `addr D N N`, `glob D N N`, `load D A I N( signed)?`, `store A I A N`, `copy A A N N`, `call (-|t(?:0|[1-9][0-9]*)) N((?: [t#](?:0|[1-9][0-9]*))*)`,
		`ret( A)?`, `jump N`, `branch A N`, `put A`, `get D`, `exit A`,
	}
	for _, name := range strings.Fields("add sub mul divs divu rems remu and or xor shl shrs shru eq ne lts ltu les leu") {
		forms = append(forms, name+" D A A")
	}
	parts := strings.NewReplacer("N", `(0|[1-9][0-9]*)`, "I", `(0|-?[1-9][0-9]*)`, "D", `(t(?:0|[1-9][0-9]*))`, "A", `([t#](?:0|[1-9][0-9]*))`)
	for _, f := range forms {
		m[strings.FieldsFunc(f, func(c rune) bool { return c == ' ' || c == '(' })[0]] = regexp.MustCompile(`\A` + parts.Replace(f) + `\z`)
	}
	return m
}

// teller reads a text by the forms of its lines.
type teller struct {
	forms map[string]*regexp.Regexp
	lines []string
	wrong bool
}

// take answers what the next line has behind its first word, if it begins with that word, and goes on behind it.
func (r *teller) take(first string) []string {
	if len(r.lines) == 0 || r.wrong {
		return nil
	}
	if word, _, _ := strings.Cut(r.lines[0], " "); word != first {
		return nil
	}
	parts := r.forms[first].FindStringSubmatch(r.lines[0])
	r.wrong = r.wrong || parts == nil
	r.lines = r.lines[1:]
	return parts
}

// number is a number of a line.
func (r *teller) number(s string) int {
	n, err := strconv.Atoi(s)
	r.wrong = r.wrong || err != nil
	return n
}

// operand is an operand of a line, which may stand behind a blank, or be none.
func (r *teller) operand(s string) api.Arg {
	s = strings.TrimPrefix(s, " ")
	if s == "" {
		return api.Arg{}
	}
	n, err := strconv.ParseUint(s[1:], 10, 32)
	r.wrong = r.wrong || err != nil
	if s[0] == 't' {
		return tmp(uint32(n))
	}
	return num(uint32(n))
}

// told is the program of a text by the second telling, and whether it has one.
func told(forms map[string]*regexp.Regexp, s string) (api.TacProg, bool) {
	if len(s) > longest || !strings.HasSuffix(s, "\n") {
		return api.TacProg{}, false
	}
	r := &teller{forms: forms, lines: strings.Split(s[:len(s)-1], "\n")}
	var p api.TacProg
	for l := r.take("object"); l != nil; l = r.take("object") {
		p.Objects = append(p.Objects, r.object(l))
	}
	for l := r.take("func"); l != nil; l = r.take("func") {
		p.Funcs = append(p.Funcs, r.function(l))
	}
	l := r.take("main")
	if l == nil || r.wrong || len(r.lines) > 0 {
		return api.TacProg{}, false
	}
	p.Main = r.number(l[1])
	return p, !r.wrong && judged(p)
}

// object is the object of a line and those behind it.
func (r *teller) object(l []string) api.TacObject {
	o := api.TacObject{Name: l[1], Size: r.number(l[2]), Align: r.number(l[3])}
	if r.wrong || o.Size > 16384 {
		r.wrong = true
		return o
	}
	o.Data.Bytes = make([]byte, o.Size)
	if l := r.take("data"); l != nil {
		for i := 0; i < len(l[1]); i += 2 {
			v, _ := strconv.ParseUint(l[1][i:i+2], 16, 8)
			if i/2 < o.Size {
				o.Data.Bytes[i/2] = byte(v)
			} else {
				r.wrong = true
			}
		}
	}
	for l := r.take("reloc"); l != nil; l = r.take("reloc") {
		o.Data.Relocs = append(o.Data.Relocs, api.Reloc{Off: r.number(l[1]), Global: r.number(l[2]), Add: r.number(l[3])})
	}
	return o
}

// function is the function of a line and those behind it.
func (r *teller) function(l []string) api.TacFunc {
	f := api.TacFunc{Name: l[1], Params: r.number(l[2]), Temps: r.number(l[3]), Gives: l[4] != ""}
	for l := r.take("slot"); l != nil; l = r.take("slot") {
		f.Slots = append(f.Slots, api.Slot{Size: r.number(l[1]), Align: r.number(l[2])})
	}
	for len(r.lines) > 0 && !r.wrong {
		first, _, _ := strings.Cut(r.lines[0], " ")
		if r.forms[first] == nil || strings.Contains(" object data reloc func slot main ", " "+first+" ") {
			break
		}
		if l := r.take(first); l != nil {
			f.Code = append(f.Code, r.instruction(first, l))
		}
	}
	return f
}

// instruction is the instruction of a line.
func (r *teller) instruction(first string, l []string) api.Ins {
	x := api.Ins{D: -1}
	target := func(s string) int { return r.number(strings.TrimPrefix(s, "t")) }
	switch first {
	case "mov":
		x.Op, x.D, x.A = api.TacMov, target(l[1]), r.operand(l[2])
	case "addr":
		x.Op, x.D, x.N, x.Off = api.TacSlot, target(l[1]), r.number(l[2]), r.number(l[3])
	case "glob":
		x.Op, x.D, x.N, x.Off = api.TacGlobal, target(l[1]), r.number(l[2]), r.number(l[3])
	case "load":
		x.Op, x.D, x.A, x.Off, x.Width, x.Signed = api.TacLoad, target(l[1]), r.operand(l[2]), r.number(l[3]), r.number(l[4]), l[5] != ""
	case "store":
		x.Op, x.A, x.Off, x.B, x.Width = api.TacStore, r.operand(l[1]), r.number(l[2]), r.operand(l[3]), r.number(l[4])
	case "copy":
		x.Op, x.A, x.B, x.Off, x.Width = api.TacCopy, r.operand(l[1]), r.operand(l[2]), r.number(l[3]), r.number(l[4])
	case "call":
		x.Op, x.N = api.TacCall, r.number(l[2])
		if l[1] != "-" {
			x.D = target(l[1])
		}
		for _, s := range strings.Fields(l[3]) {
			x.Args = append(x.Args, r.operand(s))
		}
	case "ret":
		x.Op, x.A = api.TacRet, r.operand(l[1])
	case "jump":
		x.Op, x.N = api.TacJump, r.number(l[1])
	case "branch":
		x.Op, x.A, x.N = api.TacBranch, r.operand(l[1]), r.number(l[2])
	case "put":
		x.Op, x.A = api.TacPut, r.operand(l[1])
	case "get":
		x.Op, x.D = api.TacGet, target(l[1])
	case "exit":
		x.Op, x.A = api.TacExit, r.operand(l[1])
	default:
		x.Op, x.D, x.A, x.B = api.TacBin, target(l[1]), r.operand(l[2]), r.operand(l[3])
		for i, name := range strings.Fields("add sub mul divs divu rems remu and or xor shl shrs shru eq ne lts ltu les leu") {
			if name == first {
				x.Bin = api.BinOp(i + 1)
			}
		}
	}
	return x
}

package token

import (
	"math"
	"math/rand"
	"regexp"
	"slices"
	"strconv"
	"strings"
	"testing"

	"mortise/api"
)

// wantWrite asks for a token's text, whatever its spot.
func wantWrite(t *testing.T, x api.Token, want string) {
	t.Helper()
	for _, spot := range []api.Spot{{}, {Line: 3, Col: 4, Off: 5}, {Line: -1, Col: -1, Off: -1}} {
		x.At = spot
		if got, err := Write(x); got != want || err != api.OK {
			t.Errorf("Write(%v) = %q, %d, want %q", x, got, err, want)
		}
	}
}

func TestP2_4Write(t *testing.T) {
	wantWrite(t, api.Token{}, "")
	for _, s := range keywords() {
		wantWrite(t, api.Token{Kind: api.TokWord, Text: s}, s)
	}
	for _, s := range allSigns() {
		wantWrite(t, api.Token{Kind: api.TokPunct, Text: s}, s)
	}
	for _, s := range []string{"a", "_", "Int", strings.Repeat("x", api.MaxName)} {
		wantWrite(t, api.Token{Kind: api.TokName, Text: s}, s)
	}
	for kind, end := range map[string]string{"int": "", "long": "L", "unsigned int": "U", "unsigned long": "UL"} {
		for _, n := range []int{0, 1, 8, 10, 2147483646, 2147483647} {
			wantWrite(t, api.Token{Kind: api.TokInt, Text: kind, Num: n}, strconv.Itoa(n)+end)
		}
	}
	wantWrite(t, api.Token{Kind: api.TokInt, Text: "unsigned int", Num: 2147483648}, "2147483648U")
	wantWrite(t, api.Token{Kind: api.TokInt, Text: "unsigned long", Num: 4294967295}, "4294967295UL")
}

// wantByte is what P2.4 says of a byte between quotes.
func wantByte(c int, mark string) string {
	s := one(c)
	switch {
	case c == 10:
		return `\n`
	case s == `\` || s == mark:
		return `\` + s
	case 32 <= c && c <= 126:
		return s
	}
	digits := strconv.FormatInt(int64(c), 8)
	return `\` + "000"[len(digits):] + digits
}

func TestP2_4Quotes(t *testing.T) {
	var all, want string
	for c := range 256 {
		wantWrite(t, api.Token{Kind: api.TokChar, Num: int(int8(c))}, "'"+wantByte(c, "'")+"'")
		wantWrite(t, api.Token{Kind: api.TokStr, Text: one(c)}, `"`+wantByte(c, `"`)+`"`)
		all += one(c)
		want += wantByte(c, `"`)
	}
	wantWrite(t, api.Token{Kind: api.TokStr, Text: all}, `"`+want+`"`)
	wantWrite(t, api.Token{Kind: api.TokStr}, `""`)
	wantWrite(t, api.Token{Kind: api.TokStr, Text: "\x0012\n"}, `"\00012\n"`)
	wantWrite(t, api.Token{Kind: api.TokChar, Num: -1}, `'\377'`)
	long := strings.Repeat("s", api.MaxText+9)
	wantWrite(t, api.Token{Kind: api.TokStr, Text: long}, `"`+long+`"`)
}

// noTokens are tokens that no text has.
func noTokens() []api.Token {
	l := []api.Token{
		{Num: 1}, {Text: "a"}, {Text: " "}, {Kind: -1}, {Kind: 7}, {Kind: math.MaxInt}, {Kind: math.MinInt}, {Kind: 7, Text: "a"},
		{Kind: api.TokName}, {Kind: api.TokName, Text: "int"}, {Kind: api.TokName, Text: "9"}, {Kind: api.TokName, Text: "a b"}, {Kind: api.TokName, Text: " a"}, {Kind: api.TokName, Text: "a", Num: 1}, {Kind: api.TokName, Text: strings.Repeat("a", 64)}, {Kind: api.TokName, Text: "\xe4"},
		{Kind: api.TokWord}, {Kind: api.TokWord, Text: "a"}, {Kind: api.TokWord, Text: "Int"}, {Kind: api.TokWord, Text: "int", Num: -1}, {Kind: api.TokWord, Text: "int "},
		{Kind: api.TokInt}, {Kind: api.TokInt, Num: 1}, {Kind: api.TokInt, Text: "char"}, {Kind: api.TokInt, Text: "unsigned"}, {Kind: api.TokInt, Text: "signed int"}, {Kind: api.TokInt, Text: "Int"}, {Kind: api.TokInt, Text: "long int"}, {Kind: api.TokInt, Text: "5", Num: 5}, {Kind: api.TokInt, Text: "unsigned  int"},
		{Kind: api.TokChar, Num: 128}, {Kind: api.TokChar, Num: -129}, {Kind: api.TokChar, Num: 255}, {Kind: api.TokChar, Num: 256}, {Kind: api.TokChar, Num: 65, Text: "A"}, {Kind: api.TokChar, Num: math.MinInt},
		{Kind: api.TokStr, Num: 1}, {Kind: api.TokStr, Text: "a", Num: 1}, {Kind: api.TokStr, Text: "a", Num: -1},
		{Kind: api.TokPunct}, {Kind: api.TokPunct, Text: "#"}, {Kind: api.TokPunct, Text: "..."}, {Kind: api.TokPunct, Text: "+ "}, {Kind: api.TokPunct, Text: " +"}, {Kind: api.TokPunct, Text: "+a"}, {Kind: api.TokPunct, Text: "+-"}, {Kind: api.TokPunct, Text: "<<<"}, {Kind: api.TokPunct, Text: "//"}, {Kind: api.TokPunct, Text: "/*"}, {Kind: api.TokPunct, Text: "'"}, {Kind: api.TokPunct, Text: "+", Num: 2}, {Kind: api.TokPunct, Text: "a"}, {Kind: api.TokPunct, Text: "~="},
	}
	for _, kind := range []string{"int", "long", "unsigned int", "unsigned long"} {
		for _, n := range []int{-1, -2147483648, math.MinInt, math.MaxInt, 4294967296} {
			l = append(l, api.Token{Kind: api.TokInt, Text: kind, Num: n})
		}
	}
	for _, kind := range []string{"int", "long"} {
		l = append(l, api.Token{Kind: api.TokInt, Text: kind, Num: 2147483648}, api.Token{Kind: api.TokInt, Text: kind, Num: 4294967295})
	}
	return l
}

func TestP2_4Refused(t *testing.T) {
	a := api.Token{Kind: api.TokName, Text: "a"}
	for _, x := range noTokens() {
		if s, err := Write(x); s != "" || err != api.ErrArg {
			t.Errorf("Write(%v) = %q, %d", x, s, err)
		}
		for _, l := range [][]api.Token{{x}, {a, x}, {x, a}, {a, x, a}, {x, {}}} {
			if s, err := Join(l); s != "" || err != api.ErrArg {
				t.Errorf("Join(%v) = %q, %d", l, s, err)
			}
		}
	}
}

func TestP2_4Join(t *testing.T) {
	a, plus, end := api.Token{Kind: api.TokName, Text: "a"}, api.Token{Kind: api.TokPunct, Text: "+"}, api.Token{}
	for _, c := range []struct {
		list []api.Token
		want string
		err  api.Errno
	}{
		{nil, "", api.OK}, {[]api.Token{}, "", api.OK}, {[]api.Token{end}, "", api.OK}, {[]api.Token{a}, "a", api.OK},
		{[]api.Token{a, end}, "a ", api.OK}, {[]api.Token{a, plus, plus, a}, "a + + a", api.OK}, {[]api.Token{plus, a, end}, "+ a ", api.OK},
		{[]api.Token{end, end}, "", api.ErrArg}, {[]api.Token{end, a}, "", api.ErrArg}, {[]api.Token{a, end, a}, "", api.ErrArg}, {[]api.Token{a, end, end}, "", api.ErrArg},
	} {
		given := slices.Clone(c.list)
		if s, err := Join(c.list); s != c.want || err != c.err {
			t.Errorf("Join(%v) = %q, %d, want %q, %d", c.list, s, err, c.want, c.err)
		}
		if !slices.Equal(given, c.list) {
			t.Errorf("Join changed %v", given)
		}
	}
}

// anyToken is some token but the end.
func anyToken(r *rand.Rand) api.Token {
	kinds := []string{"int", "long", "unsigned int", "unsigned long"}
	switch r.Intn(6) {
	case 0:
		return api.Token{Kind: api.TokName, Text: strings.Repeat(one('a'+r.Intn(26)), 1+r.Intn(api.MaxName))}
	case 1:
		return api.Token{Kind: api.TokWord, Text: keywords()[r.Intn(len(keywords()))]}
	case 2:
		k := r.Intn(4)
		return api.Token{Kind: api.TokInt, Text: kinds[k], Num: int(r.Uint32() >> (1 - k/2))}
	case 3:
		return api.Token{Kind: api.TokChar, Num: r.Intn(256) - 128}
	case 4:
		b := make([]byte, r.Intn(6))
		r.Read(b)
		return api.Token{Kind: api.TokStr, Text: string(b)}
	}
	return api.Token{Kind: api.TokPunct, Text: allSigns()[r.Intn(len(allSigns()))]}
}

func TestP2_5JoinAndScan(t *testing.T) {
	r := rand.New(rand.NewSource(5))
	for range 2000 {
		var l []api.Token
		for range r.Intn(12) {
			x := anyToken(r)
			if x.Kind == api.TokName && Word(x.Text) {
				continue
			}
			l = append(l, x)
		}
		s, err := Join(l)
		again := bare(scanOK(t, s))
		if err != api.OK || !slices.Equal(again, l) {
			t.Fatalf("%v is written %q, %d, read %v", l, s, err, again)
		}
		withEnd, err := Join(append(slices.Clone(l), api.Token{At: api.Spot{Off: 7}}))
		if got := bare(scanOK(t, withEnd)); err != api.OK || !slices.Equal(got, l) {
			t.Fatalf("%v with an end is written %q, %d, read %v", l, withEnd, err, got)
		}
	}
}

// pieces are texts' parts: put together at random, they make texts with and without faults.
func pieces() []string {
	l := append(keywords(), allSigns()...)
	return append(l, "a", "b9", "_", "0", "17", "0x1fUL", "4294967295u", "08", "1x", "'a'", `'\n'`, `'\377'`, `"s"`, `"\"\\\0"`, "''", "'", `"`, `\`, "@", "#", "$", "/*", "*/", "//", "/* c */", "// d\n", "\n", "\n", " ", " ", "\t", "\v", "\x00", "\xff", "$", strings.Repeat("n", 63), strings.Repeat("n", 64))
}

// anyText is made of some pieces.
func anyText(r *rand.Rand) string {
	var s strings.Builder
	all := pieces()
	for range r.Intn(10) {
		s.WriteString(all[r.Intn(len(all))])
		if r.Intn(2) == 0 {
			s.WriteString(" ")
		}
	}
	return s.String()
}

func TestP2_5Gaps(t *testing.T) {
	r := rand.New(rand.NewSource(6))
	gaps := []string{" ", " \n\t", " /**/", " // x\n", " /* ' \" @ */ ", "  \v\f\r\n"}
	for range 5000 {
		s := anyText(r)
		l, f := Scan(s)
		if f.Code != api.OK {
			continue
		}
		for _, x := range l[1:] {
			if x.Kind == api.TokEnd && strings.Contains(s, "//") {
				continue // the gap would stand within a comment that goes to the end
			}
			wider := s[:x.At.Off] + gaps[r.Intn(len(gaps))] + s[x.At.Off:]
			if again := scanOK(t, wider); !slices.Equal(bare(again), bare(l[:len(l)-1])) {
				t.Fatalf("%q and %q are cut otherwise: %v", s, wider, again)
			}
		}
	}
}

func TestP2_5AheadOfFault(t *testing.T) {
	r := rand.New(rand.NewSource(7))
	faults := 0
	for range 20000 {
		s := anyText(r)
		if _, f := Scan(s); f.Code != api.OK {
			faults++
			scanOK(t, s[:f.At.Off])
		}
	}
	scanOK(t, strings.Repeat("+ ", api.MaxTokens))
	if faults < 1000 {
		t.Errorf("only %d texts had a fault", faults)
	}
}

// patterns tell what P2.2 says as regular expressions: gaps, then each kind of token.
type patterns struct {
	gap, name, run, number, char, text, sign *regexp.Regexp
}

func makePatterns() patterns {
	signs := allSigns()
	slices.SortFunc(signs, func(a, b string) int { return len(b) - len(a) })
	for i := range signs {
		signs[i] = regexp.QuoteMeta(signs[i])
	}
	escape := `\\(?:[abfnrtv\\'"?]|[0-3][0-7]{2}|[0-7]{1,2}|x0*[0-9a-fA-F]{1,2})`
	return patterns{
		gap:    regexp.MustCompile(`^(?:[ \t\n\v\f\r]|/\*(?s:.*?)\*/|//[^\n]*)*`),
		name:   regexp.MustCompile(`^[a-zA-Z_][a-zA-Z0-9_]*`),
		run:    regexp.MustCompile(`^[0-9][a-zA-Z0-9_]*`),
		number: regexp.MustCompile(`^(?:0[xX][0-9a-fA-F]+|0[0-7]*|[1-9][0-9]*)(?:[uU]?[lL]?|[lL][uU])$`),
		char:   regexp.MustCompile(`^'(?:` + escape + `|[^\n\\'])'`),
		text:   regexp.MustCompile(`^"(?:` + escape + `|[^\n\\"])*"`),
		sign:   regexp.MustCompile(`^(?:` + strings.Join(signs, "|") + `)`),
	}
}

// next tells how many bytes the token at the beginning has, and what is wrong.
func (p patterns) next(s string) (int, api.Errno) {
	if strings.HasPrefix(s, "/*") {
		return 0, api.ErrComment
	}
	if m := p.name.FindString(s); m != "" {
		if len(m) > 63 {
			return 0, api.ErrWord
		}
		return len(m), api.OK
	}
	if m := p.run.FindString(s); m != "" {
		digits := strings.TrimRight(m, "uUlL")
		most := uint64(mostUInt)
		if digits[0] != '0' && !strings.ContainsAny(m, "uU") {
			most = mostInt
		}
		n, err := strconv.ParseUint(digits, 0, 64)
		if !p.number.MatchString(m) || err != nil || n > most {
			return 0, api.ErrNumber
		}
		return len(m), api.OK
	}
	if strings.HasPrefix(s, "'") || strings.HasPrefix(s, `"`) {
		if m := p.char.FindString(s) + p.text.FindString(s); m != "" {
			return len(m), api.OK
		}
		return 0, api.ErrQuote
	}
	if m := p.sign.FindString(s); m != "" {
		return len(m), api.OK
	}
	return 0, api.ErrToken
}

// cut tells at which bytes tokens begin (the end, too), and the fault.
func (p patterns) cut(s string) ([]int, api.Fault) {
	var offs []int
	for off := 0; ; {
		off += len(p.gap.FindString(s[off:]))
		if off == len(s) {
			return append(offs, off), api.Fault{}
		}
		size, wrong := p.next(s[off:])
		if wrong != api.OK {
			return nil, api.Fault{Code: wrong, At: slowAt(s, off)}
		}
		offs = append(offs, off)
		off += size
	}
}

// TestP2_2AnyText holds Scan against the patterns.
func TestP2_2AnyText(t *testing.T) {
	r := rand.New(rand.NewSource(8))
	p := makePatterns()
	for range 30000 {
		s := anyText(r)
		offs, fault := p.cut(s)
		l, f := Scan(s)
		if f != fault || len(l) != len(offs) {
			t.Fatalf("Scan(%q) = %v, %v, want %v, %v", s, l, f, offs, fault)
		}
		for i, x := range l {
			if x.At != slowAt(s, offs[i]) {
				t.Fatalf("Scan(%q): token %v, want it at %d", s, x, offs[i])
			}
		}
	}
}

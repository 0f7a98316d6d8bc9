package token

import (
	"strconv"
	"strings"
	"testing"

	"mortise/api"
)

// one is a text of one byte.
func one(c int) string { return string([]byte{byte(c)}) }

// wantQuoted asks that what stands between quotes is this one byte, in a character and in a string.
func wantQuoted(t *testing.T, inner string, c int) {
	t.Helper()
	wantOne(t, "'"+inner+"'", api.Token{Kind: api.TokChar, Num: int(int8(c))})
	wantOne(t, "\""+inner+"\"", api.Token{Kind: api.TokStr, Text: one(c)})
}

// wantNoQuote asks that what stands between quotes makes no character and no string.
func wantNoQuote(t *testing.T, inner string) {
	t.Helper()
	for _, mark := range []string{"'", "\""} {
		wantFault(t, mark+inner+mark, api.ErrQuote, 0)
		wantFault(t, "a\n"+mark+inner+mark+";", api.ErrQuote, 2)
	}
}

func TestP2_2Bytes(t *testing.T) {
	for c := range 256 {
		switch c {
		case '\n', '\\':
			wantNoQuote(t, one(c))
		case '\'':
			wantOne(t, `"'"`, api.Token{Kind: api.TokStr, Text: "'"})
			wantFault(t, `'''`, api.ErrQuote, 0)
		case '"':
			wantOne(t, `'"'`, api.Token{Kind: api.TokChar, Num: '"'})
			wantFault(t, `"""`, api.ErrQuote, 2)
		default:
			wantQuoted(t, one(c), c)
		}
	}
}

func TestP2_2Escapes(t *testing.T) {
	named := map[byte]int{'a': 7, 'b': 8, 'f': 12, 'n': 10, 'r': 13, 't': 9, 'v': 11, '\\': '\\', '\'': '\'', '"': '"', '?': '?'}
	for c := range 256 {
		value, ok := named[byte(c)]
		switch {
		case ok:
			wantQuoted(t, `\`+one(c), value)
		case '0' <= c && c <= '7':
			wantQuoted(t, `\`+one(c), c-'0')
		default:
			wantNoQuote(t, `\`+one(c))
		}
	}
}

func TestP2_2EscapesOf8(t *testing.T) {
	for n := range 512 {
		digits := strconv.FormatInt(int64(n), 8)
		three := strings.Repeat("0", 3-len(digits)) + digits
		if n > 255 {
			wantNoQuote(t, `\`+three)
			continue
		}
		wantQuoted(t, `\`+digits, n)
		wantQuoted(t, `\`+three, n)
		wantOne(t, `"\`+three+`7"`, api.Token{Kind: api.TokStr, Text: one(n) + "7"})
	}
	wantOne(t, `"\18\1a\08"`, api.Token{Kind: api.TokStr, Text: "\x018\x01a\x008"})
	for _, inner := range []string{`\8`, `\9`, `\400`, `\777`, `\4001`} {
		wantNoQuote(t, inner)
	}
}

func TestP2_2EscapesOf16(t *testing.T) {
	for n := range 256 {
		digits := strconv.FormatInt(int64(n), 16)
		wantQuoted(t, `\x`+digits, n)
		wantQuoted(t, `\x`+strings.ToUpper(digits), n)
		wantQuoted(t, `\x0000000000000000000`+digits, n)
	}
	wantOne(t, `"\x41g\x41"`, api.Token{Kind: api.TokStr, Text: "AgA"})
	for _, inner := range []string{`\x`, `\xg`, `\X41`, `\x100`, `\x1ff`, `\x0100`, `\x10000000000000041`, `\x` + strings.Repeat("f", 1000)} {
		wantNoQuote(t, inner)
	}
}

func TestP2_2Strings(t *testing.T) {
	for s, want := range map[string]string{`""`: "", `"ab c"`: "ab c", `"/* // */"`: "/* // */", `"a\n\0b"`: "a\n\x00b", "\"\x00\xff\t\r\"": "\x00\xff\t\r", `"\"'\\"`: `"'\`, `"\1234"`: "S4"} {
		wantOne(t, s, api.Token{Kind: api.TokStr, Text: want})
	}
	if l := scanOK(t, `"a""b" 'c''d'`); len(l) != 4 || l[0].Text != "a" || l[1].Text != "b" || l[2].Num != 'c' || l[3].Num != 'd' {
		t.Error(l)
	}
	long := strings.Repeat("s", api.MaxText-2)
	wantOne(t, `"`+long+`"`, api.Token{Kind: api.TokStr, Text: long})
}

func TestP2_2NoQuotes(t *testing.T) {
	for _, s := range []string{`''`, `'ab'`, `'\n\n'`, `'`, `'a`, `'\`, `'\'`, `'\\`, "'a\n'", "'\n'", "'\\\n'", `'\1234'`, `'\x`, `"`, `"a`, `"\`, `"\"`, "\"a\nb\"", "\"\\\n\"", `"\x"`, `"\400"`, `"a\qb"`, `"\u0041"`, `"\e"`, `'abc`, `"ab`, "'a", `"\0`} {
		wantFault(t, s, api.ErrQuote, 0)
		wantFault(t, "x;\n+"+s, api.ErrQuote, 4)
	}
}

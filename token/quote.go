package token

import (
	"strings"

	"mortise/api"
)

// readQuoted reads a character or a string.
func readQuoted(s string) (api.Token, int, api.Errno) {
	inner, size, ok := unquote(s)
	switch {
	case ok && s[0] == '"':
		return api.Token{Kind: api.TokStr, Text: string(inner)}, size, api.OK
	case ok && len(inner) == 1:
		return api.Token{Kind: api.TokChar, Num: int(int8(inner[0]))}, size, api.OK
	}
	return api.Token{}, 0, api.ErrQuote
}

// unquote reads the bytes from a quote to the next one like it, and tells how many bytes the text has with both.
func unquote(s string) ([]byte, int, bool) {
	var inner []byte
	for off := 1; off < len(s); {
		c, size := s[off], 1
		switch c {
		case s[0]:
			return inner, off + 1, true
		case '\n':
			return nil, 0, false
		case '\\':
			b, behind, ok := escape(s[off+1:])
			if !ok {
				return nil, 0, false
			}
			c, size = b, 1+behind
		}
		inner = append(inner, c)
		off += size
	}
	return nil, 0, false
}

// escape reads what stands behind a backslash: its byte, and how many bytes it has.
func escape(s string) (byte, int, bool) {
	if s == "" {
		return 0, 0, false
	}
	if i := strings.IndexByte(`abfnrtv\'"?`, s[0]); i >= 0 {
		return "\a\b\f\n\r\t\v\\'\"?"[i], 1, true
	}
	if s[0] == 'x' {
		size := 1 + run(s[1:], digitsOf(16))
		return escaped(s[1:size], 16, size)
	}
	size := run(s[:min(3, len(s))], digitsOf(8))
	return escaped(s[:size], 8, size)
}

// escaped is the byte that an escape's digits tell; size is how many bytes the escape has.
func escaped(digits string, base int, size int) (byte, int, bool) {
	n := value(digits, base, 255)
	if digits == "" || n > 255 {
		return 0, 0, false
	}
	return byte(n), size, true
}

// quote writes bytes between two quotes.
func quote(mark byte, text string) string {
	var b strings.Builder
	b.WriteByte(mark)
	for i := range len(text) {
		c := text[i]
		switch {
		case c == '\n':
			b.WriteString(`\n`)
		case c == '\\' || c == mark:
			b.WriteByte('\\')
			b.WriteByte(c)
		case ' ' <= c && c <= '~':
			b.WriteByte(c)
		default:
			b.Write([]byte{'\\', '0' + c>>6, '0' + c>>3&7, '0' + c&7})
		}
	}
	b.WriteByte(mark)
	return b.String()
}

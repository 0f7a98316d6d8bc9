package token

import (
	"strconv"
	"strings"

	"mortise/api"
)

// The greatest numbers of the signed and of the unsigned types.
const (
	mostSigned   = 1<<31 - 1
	mostUnsigned = 1<<32 - 1
)

// readNumber reads a number.
func readNumber(s string) (api.Token, int, api.Errno) {
	size := run(s, inName)
	n, kind, ok := number(s[:size])
	if !ok {
		return api.Token{}, 0, api.ErrNumber
	}
	return api.Token{Kind: api.TokInt, Text: kind, Num: n}, size, api.OK
}

// number is the value and the type of a number's text.
func number(s string) (int, string, bool) {
	base, digits := baseOf(s)
	size := run(digits, digitsOf(base))
	unsigned, long, ok := ending(digits[size:])
	if size == 0 || !ok {
		return 0, "", false
	}
	n := value(digits[:size], base, mostUnsigned)
	if base != 10 && n > mostSigned {
		unsigned = true
	}
	kind := typeOf(unsigned, long)
	return n, kind, n <= most(kind)
}

// baseOf tells a number's base, and its text from the digits on. A nought ahead of digits of 8 is one of them.
func baseOf(s string) (int, string) {
	switch {
	case strings.HasPrefix(s, "0x") || strings.HasPrefix(s, "0X"):
		return 16, s[2:]
	case s[0] == '0':
		return 8, s
	}
	return 10, s
}

// ending tells what stands behind a number's digits.
func ending(s string) (unsigned bool, long bool, ok bool) {
	switch strings.ToLower(s) {
	case "":
		return false, false, true
	case "u":
		return true, false, true
	case "l":
		return false, true, true
	case "ul", "lu":
		return true, true, true
	}
	return false, false, false
}

// typeOf is the type of a number that has these endings.
func typeOf(unsigned bool, long bool) string {
	switch {
	case unsigned && long:
		return "unsigned long"
	case unsigned:
		return "unsigned int"
	case long:
		return "long"
	}
	return "int"
}

// most is the greatest number that a token of a type has, or -1, if no number's token has that type.
func most(kind string) int {
	switch kind {
	case "int", "long":
		return mostSigned
	case "unsigned int", "unsigned long":
		return mostUnsigned
	}
	return -1
}

// writeNumber writes a number of a type that numbers have.
func writeNumber(n int, kind string) string {
	text := strconv.Itoa(n)
	switch kind {
	case "long":
		return text + "L"
	case "unsigned int":
		return text + "U"
	case "unsigned long":
		return text + "UL"
	}
	return text
}

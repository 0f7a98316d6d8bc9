package ctype

import "mortise/api"

// maxDigits is how many digits a tag of a type without a name may have.
const maxDigits = 9

// Tag tells whether a text may be a tag.
func Tag(s string) bool { return isName(s) || isNumbered(s) }

// isName tells whether a text is a tag without `#`; what C keeps for its keywords is one, too.
func isName(s string) bool {
	if s == "" || len(s) > api.MaxName || isDigit(s[0]) {
		return false
	}
	for i := range len(s) {
		if !isLetter(s[i]) && !isDigit(s[i]) {
			return false
		}
	}
	return true
}

// isNumbered tells whether a text is `#` and digits.
func isNumbered(s string) bool {
	if len(s) < 2 || len(s) > 1+maxDigits || s[0] != '#' {
		return false
	}
	for i := 1; i < len(s); i++ {
		if !isDigit(s[i]) {
			return false
		}
	}
	return true
}

// isLetter tells whether a name may begin with a byte.
func isLetter(c byte) bool {
	return 'a' <= c && c <= 'z' || 'A' <= c && c <= 'Z' || c == '_'
}

// isDigit tells whether a byte is a digit.
func isDigit(c byte) bool { return '0' <= c && c <= '9' }

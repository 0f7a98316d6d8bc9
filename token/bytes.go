package token

// run tells how many of a text's first bytes may all stand there.
func run(s string, may func(c byte) bool) int {
	n := 0
	for n < len(s) && may(s[n]) {
		n++
	}
	return n
}

// isBlank tells whether a byte is a blank.
func isBlank(c byte) bool { return c == ' ' || '\t' <= c && c <= '\r' }

// isLetter tells whether a name may begin with a byte.
func isLetter(c byte) bool {
	return 'a' <= c && c <= 'z' || 'A' <= c && c <= 'Z' || c == '_'
}

// inName tells whether a byte may stand within a name, or behind a number's first digit.
func inName(c byte) bool { return isLetter(c) || digit(c) < 10 }

// noDigit is what digit answers of a byte that is none: more than any base.
const noDigit = 99

// digit is the value of a digit of 16.
func digit(c byte) int {
	switch {
	case '0' <= c && c <= '9':
		return int(c - '0')
	case 'a' <= c && c <= 'f':
		return int(c-'a') + 10
	case 'A' <= c && c <= 'F':
		return int(c-'A') + 10
	}
	return noDigit
}

// digitsOf is what a run of digits of a base may have.
func digitsOf(base int) func(c byte) bool {
	return func(c byte) bool { return digit(c) < base }
}

// value is the number of digits, or just any number above most, if it is above most.
func value(digits string, base int, most int) int {
	n := 0
	for i := 0; i < len(digits) && n <= most; i++ {
		n = n*base + digit(digits[i])
	}
	return n
}

package conv

import "mortise/api"

// intBits is how many bits an int has: a bit-field with fewer has only numbers that an int has.
const intBits = 32

// noField stands for the bits of what is no bit-field.
const noField = -1

// isInteger tells whether a kind is a number's.
func isInteger(k api.TypeKind) bool { return api.TBool <= k && k <= api.TEnum }

// isNarrow tells whether an integer kind becomes int, whatever its bits: an int has all its numbers.
func isNarrow(k api.TypeKind) bool { return k < api.TInt || k == api.TEnum }

// common is the kind to which two promoted kinds are converted.
func common(a, b api.TypeKind) api.TypeKind {
	k := max(a, b)
	if k == api.TLong && min(a, b) == api.TUInt { // long is no wider, so it lacks the upper half of unsigned int
		return api.TULong
	}
	return k
}

package tree

import "mortise/api"

// isStep tells whether a sign stands ahead of or behind what it counts up or down.
func isStep(s string) bool { return s == "++" || s == "--" }

// isUnary tells whether a TrUn has the sign.
func isUnary(s string) bool {
	switch s {
	case "+", "-", "~", "!", "*", "&":
		return true
	}
	return isStep(s)
}

// isSet tells whether a TrSet has the sign.
func isSet(s string) bool {
	switch s {
	case "=", "*=", "/=", "%=", "+=", "-=", "<<=", ">>=", "&=", "^=", "|=":
		return true
	}
	return false
}

// isBase tells whether a TrBase has the words.
func isBase(s string) bool {
	switch s {
	case "void", "_Bool", "char", "signed char", "unsigned char", "short", "unsigned short", "int", "unsigned int", "long", "unsigned long":
		return true
	}
	return false
}

// Levels of expressions, and what places want, as far as no sign tells them.
const (
	commaLevel = 0
	setLevel   = 1
	condLevel  = 2
	orLevel    = 3
	castLevel  = 13
	unaryLevel = 14
	postLevel  = 15
)

// levelOf is the level of a TrBi with the sign, or -1, if none has it.
func levelOf(s string) int {
	switch s {
	case ",":
		return commaLevel
	case "||":
		return orLevel
	case "&&":
		return 4
	case "|":
		return 5
	case "^":
		return 6
	case "&":
		return 7
	case "==", "!=":
		return 8
	case "<", ">", "<=", ">=":
		return 9
	case "<<", ">>":
		return 10
	case "+", "-":
		return 11
	case "*", "/", "%":
		return 12
	}
	return -1
}

// level is an expression's level. Names and numbers count as what stands ahead of them in the table: no place wants more. So do parts that are no expressions, which never have parentheses.
func level(x api.Tree) int {
	switch x.Kind {
	case api.TrBi:
		return levelOf(x.Text)
	case api.TrSet:
		return setLevel
	case api.TrCond:
		return condLevel
	case api.TrCast:
		return castLevel
	case api.TrUn, api.TrSizeE, api.TrSizeT:
		return unaryLevel
	}
	return postLevel
}

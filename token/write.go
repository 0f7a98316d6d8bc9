package token

import (
	"strings"

	"mortise/api"
)

// Write writes a token (P2.4).
func Write(t api.Token) (string, api.Errno) {
	if !canBe(t) {
		return "", api.ErrArg
	}
	switch t.Kind {
	case api.TokInt:
		return writeNumber(t.Num, t.Text), api.OK
	case api.TokChar:
		return quote('\'', string([]byte{byte(t.Num)})), api.OK
	case api.TokStr:
		return quote('"', t.Text), api.OK
	}
	return t.Text, api.OK
}

// canBe tells whether some text has a token, wherever it may stand.
func canBe(t api.Token) bool {
	switch t.Kind {
	case api.TokInt:
		return 0 <= t.Num && t.Num <= most(t.Text)
	case api.TokChar:
		return t.Text == "" && -128 <= t.Num && t.Num <= 127
	}
	return t.Num == 0 && canHave(t.Kind, t.Text)
}

// canHave tells whether a token of a kind that has no number may have a text.
func canHave(k api.TokenKind, text string) bool {
	switch k {
	case api.TokEnd:
		return text == ""
	case api.TokName:
		return Name(text)
	case api.TokWord:
		return Word(text)
	case api.TokStr:
		return true
	case api.TokPunct:
		return text != "" && sign(text) == text
	}
	return false
}

// Join writes tokens, a blank between each two (P2.4).
func Join(l []api.Token) (string, api.Errno) {
	texts := make([]string, len(l))
	for i, t := range l {
		text, err := Write(t)
		if err != api.OK || t.Kind == api.TokEnd && i < len(l)-1 {
			return "", api.ErrArg
		}
		texts[i] = text
	}
	return strings.Join(texts, " "), api.OK
}

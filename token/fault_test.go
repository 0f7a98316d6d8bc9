package token

import (
	"strings"
	"testing"

	"mortise/api"
)

func TestP2_2NoToken(t *testing.T) {
	none := 0
	for c := range 256 {
		s := one(c)
		if strings.ContainsAny(s, " \t\n\v\f\r'\"[](){}.-+&*~!/%<>=^|?:;,") || c < 128 && (isLetter(byte(c)) || digit(byte(c)) < 10) {
			continue
		}
		none++
		wantFault(t, s, api.ErrToken, 0)
		wantFault(t, "a\n b"+s+"c '", api.ErrToken, 4)
	}
	if want := 256 - 62 - 1 - 6 - 2 - 24; none != want {
		t.Errorf("%d bytes begin no token, want %d", none, want)
	}
}

func TestP2_2LongNames(t *testing.T) {
	long := strings.Repeat("w", api.MaxName+1)
	wantFault(t, long, api.ErrWord, 0)
	wantFault(t, " +"+long+"@", api.ErrWord, 2)
	wantFault(t, strings.Repeat("_9", 1000), api.ErrWord, 0)
	wantFault(t, "int"+long, api.ErrWord, 0)
	wantFault(t, "9"+long, api.ErrNumber, 0)
}

func TestP2_2Comments(t *testing.T) {
	for _, s := range []string{"/*", "/* x", "/*/", "/* *", "/* * /", "/*\n//", "/* \"*\"/ '", "/*@"} {
		wantFault(t, s, api.ErrComment, 0)
		wantFault(t, "a\n/**/ "+s, api.ErrComment, 7)
	}
}

func TestP2_2Longest(t *testing.T) {
	if l := scanOK(t, strings.Repeat(" ", api.MaxText)); len(l) != 0 {
		t.Error(l)
	}
	for _, s := range []string{strings.Repeat(" ", api.MaxText+1), strings.Repeat("@", api.MaxText+1), "/*" + strings.Repeat("a", api.MaxText), strings.Repeat("+ ", api.MaxText), strings.Repeat("a", 1<<20)} {
		if l, f := Scan(s); f != (api.Fault{Code: api.ErrText}) || len(l) != 0 {
			t.Errorf("a text of %d bytes: %d tokens, %v", len(s), len(l), f)
		}
	}
	wantFault(t, strings.Repeat(" ", api.MaxText-1)+"@", api.ErrToken, api.MaxText-1)
	wantFault(t, strings.Repeat("\n", api.MaxText-2)+"/*", api.ErrComment, api.MaxText-2)
}

func TestP2_2Many(t *testing.T) {
	full := strings.Repeat("+\n", api.MaxTokens)
	if l := scanOK(t, full); len(l) != api.MaxTokens {
		t.Errorf("%d tokens", len(l))
	}
	if l := scanOK(t, full+"/**/ //"); len(l) != api.MaxTokens {
		t.Errorf("%d tokens", len(l))
	}
	for more, code := range map[string]api.Errno{
		"a": api.ErrMany, "int": api.ErrMany, "1": api.ErrMany, "'a'": api.ErrMany, `""`: api.ErrMany, "+": api.ErrMany, "a @": api.ErrMany, "a '": api.ErrMany, "a /*": api.ErrMany,
		"@": api.ErrToken, "1x": api.ErrNumber, "'": api.ErrQuote, `"\x"`: api.ErrQuote, "/*": api.ErrComment, strings.Repeat("a", 64): api.ErrWord,
	} {
		wantFault(t, full+more, code, len(full))
		wantFault(t, full+"/* */\n"+more, code, len(full)+6)
	}
}

func TestP2_2FirstFault(t *testing.T) {
	wrong := map[string]api.Errno{"@": api.ErrToken, strings.Repeat("a", 64): api.ErrWord, "08": api.ErrNumber, "'": api.ErrQuote, "/*": api.ErrComment}
	for a, first := range wrong {
		for b := range wrong {
			wantFault(t, "x\ny "+a+"\n"+b, first, 4)
		}
	}
}

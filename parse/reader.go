package parse

import (
	"slices"

	"mortise/api"
)

// reader goes through a text's tokens.
type reader struct {
	tokens []api.Token // the last one is the end
	next   int
	names  *scope // the innermost scope
}

// newReader makes a reader whose first scope has aliases. What is no name among them is never asked for: no token of a name has that text.
func newReader(tokens []api.Token, aliases []string) *reader {
	r := &reader{tokens: tokens}
	r.open()
	for _, name := range aliases {
		r.declare(name, alias)
	}
	return r
}

// stuck is what a reader panics with: the token with which nothing goes on.
type stuck struct{ at api.Token }

// fail gives up at the next token.
func (r *reader) fail() { panic(stuck{r.look()}) }

// look is the next token.
func (r *reader) look() api.Token { return r.ahead(0) }

// ahead is the token that stands n behind the next one. Who asks has seen that none ahead of it is the end.
func (r *reader) ahead(n int) api.Token { return r.tokens[r.next+n] }

// take answers the next token, and goes on behind it.
func (r *reader) take() api.Token {
	t := r.look()
	r.next++
	return t
}

// spelling is the text of a keyword or a sign, and nothing of other tokens: a string may have the same text.
func spelling(t api.Token) string {
	if t.Kind == api.TokWord || t.Kind == api.TokPunct {
		return t.Text
	}
	return ""
}

// among is the place, from 1 on, that a keyword or a sign has among texts, or 0.
func among(t api.Token, texts ...string) int {
	return slices.Index(texts, spelling(t)) + 1
}

// sees tells whether the next token is one of these keywords or signs.
func (r *reader) sees(texts ...string) bool { return among(r.look(), texts...) > 0 }

// accept goes on behind a keyword or a sign, if it is the next token.
func (r *reader) accept(text string) bool {
	ok := r.sees(text)
	if ok {
		r.next++
	}
	return ok
}

// want takes a keyword or a sign that must stand here.
func (r *reader) want(text string) api.Token {
	if !r.sees(text) {
		r.fail()
	}
	return r.take()
}

// wantName takes a name that must stand here, whatever it stands for.
func (r *reader) wantName() api.Token {
	if r.look().Kind != api.TokName {
		r.fail()
	}
	return r.take()
}

// node makes a node.
func node(k api.TreeKind, at api.Spot, text string, sub ...api.Tree) api.Tree {
	return api.Tree{Kind: k, At: at, Text: text, Sub: sub}
}

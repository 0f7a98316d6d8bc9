package parse

import "mortise/api"

// standing is what a name stands for.
type standing int

const (
	plain standing = iota
	alias
)

// scope has what names stand for that are declared in it; round it is its outer scope.
type scope struct {
	names map[string]standing
	outer *scope
}

// open begins a scope within the innermost one.
func (r *reader) open() { r.names = &scope{outer: r.names} }

// close ends the innermost scope, and answers it.
func (r *reader) close() *scope {
	inner := r.names
	r.names = inner.outer
	return inner
}

// declare declares a name in the innermost scope. Many scopes have no names, so the map is made late.
func (r *reader) declare(name string, as standing) {
	if r.names.names == nil {
		r.names.names = map[string]standing{}
	}
	r.names.names[name] = as
}

// isAlias tells whether a token is a name that stands for a type here.
func (r *reader) isAlias(t api.Token) bool {
	if t.Kind != api.TokName {
		return false
	}
	for s := r.names; s != nil; s = s.outer {
		if as, ok := s.names[t.Text]; ok {
			return as == alias
		}
	}
	return false
}

// isPlain tells whether a token is a name that stands for no type here.
func (r *reader) isPlain(t api.Token) bool {
	return t.Kind == api.TokName && !r.isAlias(t)
}

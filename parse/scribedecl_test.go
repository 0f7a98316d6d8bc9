package parse

import (
	"slices"
	"strings"

	"mortise/api"
)

// What a declarator's inner tokens begin with.
const (
	nothing = iota
	aStar
	other
)

// round writes a declarator round what inner writes.
func (s *scribe) round(d *api.Tree, begins int, inner func()) {
	if begins != nothing && s.often() {
		s.round(d, other, func() { s.closed(inner) })
		return
	}
	switch d.Kind {
	case api.TrHole:
		inner()
	case api.TrPtr:
		s.round(&d.Sub[0], aStar, func() {
			s.put("*")
			inner()
		})
	default:
		s.round(&d.Sub[0], other, func() {
			if begins == aStar {
				s.closed(inner)
			} else {
				inner()
			}
			s.suffix(d)
		})
	}
}

// closed writes parentheses round what inner writes.
func (s *scribe) closed(inner func()) {
	s.put("(")
	inner()
	s.put(")")
}

// suffix writes brackets or params.
func (s *scribe) suffix(d *api.Tree) {
	if d.Kind == api.TrArray {
		s.put("[")
		for i := range d.Sub[1:] {
			s.expr(&d.Sub[1+i], 2)
		}
		s.put("]")
		return
	}
	s.put("(")
	if len(d.Sub) == 1 && s.Intn(2) == 0 {
		s.put("void")
	}
	s.commas(d.Sub[1:], func(p *api.Tree) {
		s.specs(&p.Sub[0], "")
		s.declare(p, &p.Sub[1])
	})
	s.put(")")
}

// declare writes a declarator round the name of x, if it has one.
func (s *scribe) declare(x *api.Tree, d *api.Tree) {
	x.At = s.here()
	if x.Text == "" {
		s.round(d, nothing, func() {})
		return
	}
	s.round(d, other, func() {
		x.At = s.here()
		s.put(x.Text)
	})
}

// typeName writes a type's name.
func (s *scribe) typeName(x *api.Tree) {
	x.At = s.here()
	s.specs(&x.Sub[0], "")
	s.round(&x.Sub[1], nothing, func() {})
}

// decl writes a declaration.
func (s *scribe) decl(x *api.Tree) {
	s.specs(&x.Sub[0], []string{"", "typedef", "static"}[x.Num])
	s.commas(x.Sub[1:], func(v *api.Tree) {
		s.declare(v, &v.Sub[0])
		if len(v.Sub) == 2 {
			s.put("=")
			s.initial(&v.Sub[1], 1)
		}
	})
	s.put(";")
}

// specs writes a specifier, with a word of storage somewhere, if it is not empty.
func (s *scribe) specs(x *api.Tree, storage string) {
	words := []string{x.Text}
	if x.Kind == api.TrBase {
		words = s.words(x.Text)
	}
	at := s.Intn(len(words) + 1)
	if storage != "" && at == 0 {
		s.put(storage)
	}
	x.At = s.here()
	if x.Kind == api.TrTag {
		s.tag(x)
	} else {
		for i, w := range words {
			if storage != "" && i == at && at > 0 {
				s.put(storage)
			}
			s.put(w)
		}
	}
	if storage != "" && at == len(words) {
		s.put(storage)
	}
}

// words are words that make a basic type, in any order.
func (s *scribe) words(basic string) []string {
	var all []string
	for words, means := range allBasic {
		if means == basic {
			all = append(all, words)
		}
	}
	slices.Sort(all)
	l := strings.Fields(pick(s.Rand, all...))
	s.Shuffle(len(l), func(i, j int) { l[i], l[j] = l[j], l[i] })
	return l
}

// tag writes a struct, a union or an enum.
func (s *scribe) tag(x *api.Tree) {
	s.put([]string{"struct", "union", "enum"}[x.Num-1])
	if x.Text != "" {
		s.put(x.Text)
	}
	for i := range x.Sub {
		x.Sub[i].At = s.here()
		s.put("{")
		s.body(x.Sub[i].Sub)
		s.put("}")
	}
}

// body writes what a tag has in braces.
func (s *scribe) body(l []api.Tree) {
	if l[0].Kind == api.TrEnum {
		s.commas(l, func(x *api.Tree) {
			x.At = s.here()
			s.put(x.Text)
			s.behind("=", x.Sub)
		})
		if s.often() {
			s.put(",")
		}
		return
	}
	for i := range l {
		l[i].At = s.here()
		s.specs(&l[i].Sub[0], "")
		s.commas(l[i].Sub[1:], func(x *api.Tree) {
			s.declare(x, &x.Sub[0])
			s.behind(":", x.Sub[1:])
		})
		s.put(";")
	}
}

// behind writes a sign and an expression, if there is one.
func (s *scribe) behind(sign string, l []api.Tree) {
	for i := range l {
		s.put(sign)
		s.expr(&l[i], 2)
	}
}

package initial

import (
	"mortise/api"
	"mortise/ctype"
	"mortise/layout"
)

// untold is the Len of an array whose length is not told.
const untold = -1

// shape is what P9.2 and P9.3 ask of a type.
type shape struct {
	id      int
	kind    api.TypeKind
	count   int            // of how many parts an initialiser takes one behind the other; untold
	elem    int            // of an array
	stride  int            // the bytes from one element of an array to the next
	chars   bool           // it is a character array
	members []api.Place    // of a struct or a union: those that have a name
	named   map[string]int // their places in members
}

// shapeOf is the shape of a type that is whole, or an array whose length is not told.
func shapeOf(t *ctype.Table, id int) *shape {
	row, _ := t.Row(id)
	s := &shape{id: id, kind: row.Kind}
	switch row.Kind {
	case api.TArray:
		s.count, s.elem, s.chars = row.Len, row.Elem, isChars(t, row)
		s.stride, _ = layout.Size(t, row.Elem)
	case api.TStruct, api.TUnion:
		s.findMembers(t, row)
		s.count = len(s.members)
		if row.Kind == api.TUnion {
			s.count = min(s.count, 1)
		}
	}
	return s
}

// findMembers finds the members of a row that have a name.
func (s *shape) findMembers(t *ctype.Table, row api.TypeRow) {
	s.named = map[string]int{}
	places, _ := layout.Places(t, s.id)
	for _, p := range places {
		if name := row.Members[p.Member].Name; name != "" {
			s.named[name] = len(s.members)
			s.members = append(s.members, p)
		}
	}
}

// isChars tells whether a row is a character array's.
func isChars(t *ctype.Table, row api.TypeRow) bool {
	if row.Kind != api.TArray {
		return false
	}
	elem, _ := t.Row(row.Elem)
	return api.TChar <= elem.Kind && elem.Kind <= api.TUChar
}

// isOpen tells whether it is an array whose length is not told. Only the whole object can be one.
func (s *shape) isOpen() bool { return s.kind == api.TArray && s.count == untold }

// isRecord tells whether it is a struct or a union.
func (s *shape) isRecord() bool { return s.kind == api.TStruct || s.kind == api.TUnion }

// isAggregate tells whether it has parts.
func (s *shape) isAggregate() bool { return s.kind == api.TArray || s.isRecord() }

// has tells whether there is such a part for what stands without designators.
func (s *shape) has(n int) bool { return n >= 0 && (n < s.count || s.isOpen()) }

// chosen is which part a designator speaks of, or false, if it wants another kind of aggregate, or there is no such part.
func (s *shape) chosen(by api.Tree) (int, bool) {
	switch {
	case by.Kind == api.TrAt && s.kind == api.TArray:
		return by.Num, s.has(by.Num)
	case by.Kind == api.TrDot && s.isRecord():
		n, ok := s.named[by.Text]
		return n, ok
	}
	return 0, false
}

// takes tells whether an expression initialises it as a whole. (The Type of a string literal says nothing.)
func (s *shape) takes(x api.Tree) bool {
	switch {
	case s.chars:
		return x.Kind == api.TrStr
	case s.isRecord():
		return x.Kind > api.TrStr && x.Type == s.id
	}
	return x.Kind >= api.TrStr && !s.isAggregate()
}

package lower

import (
	"mortise/api"
	"mortise/ctype"
	"mortise/layout"
)

// shape is what is asked of a type. Void has the size 0.
type shape struct {
	kind  api.TypeKind
	size  int
	align int
}

// isRecord tells whether it is a struct or a union.
func (s shape) isRecord() bool { return s.kind == api.TStruct || s.kind == api.TUnion }

// isScalar tells whether it is a number or a pointer.
func (s shape) isScalar() bool { return api.TBool <= s.kind && s.kind <= api.TPtr }

// gauge measures a program's types.
type gauge struct {
	types  *ctype.Table
	shapes map[int]shape // of the types that were asked for: layer 5 measures a type anew each time
}

// newGauge makes a gauge of a program's types, which layer 3 takes.
func newGauge(rows []api.TypeRow) *gauge {
	types, _ := ctype.From(rows)
	return &gauge{types: types, shapes: map[int]shape{}}
}

// shape is that of a type.
func (g *gauge) shape(id int) shape {
	s, known := g.shapes[id]
	if !known {
		row, _ := g.types.Row(id)
		s.kind = row.Kind
		s.size, _ = layout.Size(g.types, id)
		s.align, _ = layout.Align(g.types, id)
		g.shapes[id] = s
	}
	return s
}

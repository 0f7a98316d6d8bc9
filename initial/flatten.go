package initial

import (
	"slices"

	"mortise/api"
	"mortise/ctype"
	"mortise/layout"
)

// part is what is initialised: the whole object, or a part of it.
type part struct {
	*shape
	off, bit, bits int
}

// flattener goes through an initialiser and gathers its leaves.
type flattener struct {
	types  *ctype.Table
	shapes map[int]*shape // of the types met so far
	way    []int          // from the whole initialiser to the one that is looked at
	leaves []api.Leaf
	begun  int // how many elements the array whose length is not told must have
}

// flatten initialises the whole object, and answers its type.
func (f *flattener) flatten(id int, x api.Tree) (int, error) {
	if err := f.open(id); err != nil {
		return 0, err
	}
	whole := part{shape: f.shape(id)}
	if err := f.initialise(whole, x); err != nil {
		return 0, err
	}
	if !whole.isOpen() {
		return id, nil
	}
	return f.tell(whole.shape)
}

// open asks that there is such a type, and that it, or the element of an array whose length is not told, has a size.
func (f *flattener) open(id int) error {
	row, _ := f.types.Row(id)
	if row.Kind == api.TArray && row.Len == untold {
		id = row.Elem
	}
	_, code := layout.Size(f.types, id)
	return refuse(code)
}

// tell puts an array with as many elements as it must have in the place of one whose length is not told. That comes last of all: the table gets a row only where nothing else is refused.
func (f *flattener) tell(open *shape) (int, error) {
	id, code := f.types.Array(open.elem, f.begun)
	if code != api.OK {
		return 0, refuse(code)
	}
	for i := range f.leaves {
		if f.leaves[i].Type == open.id { // by a string literal the array is a leaf itself
			f.leaves[i].Type = id
		}
	}
	return id, nil
}

// shape is a type's shape, which is made once.
func (f *flattener) shape(id int) *shape {
	s, ok := f.shapes[id]
	if !ok {
		s = shapeOf(f.types, id)
		f.shapes[id] = s
	}
	return s
}

// initialise initialises a part by an initialiser (P9.2).
func (f *flattener) initialise(p part, x api.Tree) error {
	if x.Kind != api.TrList {
		return f.byExpression(p, x)
	}
	by, ok := lone(x)
	switch {
	case ok && (p.chars && by.Kind == api.TrStr || !p.isAggregate()):
		return f.below(0, 0, p, by)
	case p.isAggregate():
		return f.byList(p, x)
	}
	return refuse(api.ErrInit)
}

// below initialises a part by what stands at place n of item i of the list that is looked at.
func (f *flattener) below(i, n int, p part, x api.Tree) error {
	f.way = append(f.way, i, n)
	err := f.initialise(p, x)
	f.way = f.way[:len(f.way)-2]
	return err
}

// lone is the expression of a list that has just this, without designators.
func lone(x api.Tree) (api.Tree, bool) {
	if len(x.Sub) != 1 || x.Sub[0].Kind != api.TrItem || len(x.Sub[0].Sub) != 1 {
		return api.Tree{}, false
	}
	by := x.Sub[0].Sub[0]
	return by, by.Kind >= api.TrStr
}

// byExpression initialises a part as a whole.
func (f *flattener) byExpression(p part, x api.Tree) error {
	if !p.takes(x) {
		return refuse(api.ErrInit)
	}
	if p.chars {
		if err := f.fit(p, len(x.Text)); err != nil {
			return err
		}
	}
	return f.leaf(p)
}

// fit asks that a character array has room for so many bytes. One whose length is not told has room for a 0 behind them, too.
func (f *flattener) fit(p part, bytes int) error {
	switch {
	case p.isOpen() && bytes >= api.MaxSize:
		return refuse(api.ErrLarge)
	case p.isOpen():
		f.begun = bytes + 1
	case bytes > p.count:
		return refuse(api.ErrInit)
	}
	return nil
}

// leaf puts a part behind the leaves, with the way to the initialiser that is looked at.
func (f *flattener) leaf(p part) error {
	if len(f.leaves) >= api.MaxLeaves {
		return refuse(api.ErrLarge)
	}
	f.leaves = append(f.leaves, api.Leaf{Off: p.off, Bit: p.bit, Bits: p.bits, Type: p.id, Way: slices.Clone(f.way)})
	return nil
}

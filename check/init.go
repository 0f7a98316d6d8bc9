package check

import (
	"slices"

	"mortise/api"
	"mortise/initial"
	"mortise/word"
)

// plan is what an initialiser does to an object: which values which of its leaves get. The value of a leaf that is an array is a TrStr.
type plan struct {
	id     int // the object's type, its length told
	leaves []api.Leaf
	values []api.Tree
}

// plan goes through the initialiser of an object of a type; at is the object's spot.
func (c *checker) plan(id int, x api.Tree, at api.Spot) plan {
	x = c.typedInside(x)
	leaves, id, code := initial.Flatten(c.types, id, x)
	refuse(code, at)
	p := plan{id: id, leaves: leaves}
	for _, l := range leaves {
		p.values = append(p.values, c.leafValue(l, x, at))
	}
	return p
}

// typedInside is an initialiser, in new memory, with its designators reckoned and its expressions typed.
func (c *checker) typedInside(x api.Tree) api.Tree {
	switch x.Kind {
	case api.TrStr, api.TrDot:
		return x
	case api.TrAt:
		return c.reckoned(x)
	case api.TrList, api.TrItem:
		x.Sub = slices.Clone(x.Sub)
		for i := range x.Sub {
			x.Sub[i] = c.typedInside(x.Sub[i])
		}
		return x
	}
	return c.value(x)
}

// reckoned is a designator of an array with its number.
func (c *checker) reckoned(x api.Tree) api.Tree {
	x.Num = c.constant(x.Sub[0])
	want(x.Num >= 0, api.ErrInit, x.At)
	x.Sub = nil
	return x
}

// leafValue is the value that an initialiser has for a leaf, as that takes it.
func (c *checker) leafValue(l api.Leaf, x api.Tree, at api.Spot) api.Tree {
	for _, i := range l.Way {
		x = x.Sub[i]
	}
	if x.Kind == api.TrStr {
		if c.kind(l.Type) == api.TArray {
			return x
		}
		x = c.read(c.text(x), x.At)
	}
	v, ok := c.taken(x, l.Type)
	want(ok, api.ErrInit, at)
	return v
}

// fill gives global n what its initialiser says that it has at first.
func (c *checker) fill(n int, x api.Tree, at api.Spot) {
	p := c.plan(c.globals[n].Type, x, at)
	c.globals[n].Type = p.id // the addresses below may be its own
	var values []api.Const
	for _, v := range p.values {
		k, ok := c.initially(v)
		want(ok, api.ErrConst, at)
		values = append(values, k)
	}
	data, code := initial.Image(c.types, p.id, p.leaves, values)
	refuse(code, at)
	c.globals[n].Data = data
}

// sets are what local n, all of whose bytes are 0, is set to by its initialiser.
func (c *checker) sets(n int, x api.Tree, at api.Spot) []api.Tree {
	p := c.plan(c.frame.locals[n], x, at)
	c.frame.locals[n] = p.id
	var l []api.Tree
	for i, leaf := range p.leaves {
		at := api.Place{Type: leaf.Type, Off: leaf.Off, Bit: leaf.Bit, Bits: leaf.Bits}
		if v := p.values[i]; v.Kind == api.TrStr {
			l = append(l, c.letters(n, at, v.Text)...)
		} else {
			l = append(l, c.setPart(n, at, v))
		}
	}
	return l
}

// setPart sets a part of local n.
func (c *checker) setPart(n int, p api.Place, v api.Tree) api.Tree {
	return setTo(part(typed(api.TxLocal, c.frame.locals[n], n), p), v)
}

// letters sets the elements of an array of characters in local n that are not 0.
func (c *checker) letters(n int, p api.Place, text string) []api.Tree {
	elem := c.row(p.Type).Elem
	var l []api.Tree
	for i, b := range []byte(text) {
		if b != 0 {
			v := c.told(word.Convert(c.kind(elem), uint32(b)), elem)
			l = append(l, c.setPart(n, api.Place{Type: elem, Off: p.Off + i}, number(v, elem)))
		}
	}
	return l
}

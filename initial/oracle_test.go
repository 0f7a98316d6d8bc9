package initial

import (
	"slices"

	"mortise/api"
	"mortise/ctype"
	"mortise/layout"
)

// teller tells P9.1 to P9.3 once more. It knows no rows of aggregates: where it is, is a list of hops from the object on, which layer 5 walks.
type teller struct {
	*ctype.Table
	root   int // the object's type; of an array whose length is not told the longest there may be
	open   bool
	most   int // the last element's place, of such an array
	leaves []api.Leaf
	err    api.Errno
}

// tell is what Flatten is to answer; of an array whose length is not told the length in place of its type, and -1 as that of a leaf.
func tell(c *ctype.Table, id int, x api.Tree) ([]api.Leaf, int, api.Errno) {
	w := &teller{Table: c.Copy(), root: id, most: -1}
	row, _ := c.Row(id)
	size, err := layout.Size(c, id)
	if row.Kind == api.TArray && row.Len == -1 {
		w.open = true
		if size, err = layout.Size(c, row.Elem); err == api.OK {
			w.root, _ = w.Array(row.Elem, api.MaxSize/size)
		}
	}
	if err != api.OK {
		return nil, 0, err
	}
	if w.part(nil, x, nil); w.err != api.OK {
		return nil, 0, w.err
	}
	return w.leaves, w.most + 1, api.OK
}

// fail keeps the first error.
func (w *teller) fail(err api.Errno) {
	if w.err == api.OK {
		w.err = err
	}
}

// at is where hops lead, and the row of the type there.
func (w *teller) at(hops []api.Hop) (api.Place, api.TypeRow) {
	p, err := layout.Walk(w.Table, w.root, hops)
	if err != api.OK {
		panic("the teller went astray")
	}
	row, _ := w.Row(p.Type)
	return p, row
}

// isAggregate tells whether hops lead to what has parts.
func (w *teller) isAggregate(hops []api.Hop) bool {
	_, row := w.at(hops)
	return row.Kind >= api.TArray
}

// sister is the hop to the part that comes behind one, or, ahead of them all, to the first one; false, if there is none.
func (w *teller) sister(hops []api.Hop, of api.Hop, first bool) (api.Hop, bool) {
	_, row := w.at(hops)
	if row.Kind == api.TArray {
		next := api.Hop{Index: of.Index + 1}
		if first {
			next.Index = 0
		}
		return next, next.Index < row.Len
	}
	found := first
	for _, m := range row.Members {
		if found && m.Name != "" {
			return api.Hop{Name: m.Name}, first || row.Kind == api.TStruct
		}
		found = found || m.Name == of.Name
	}
	return api.Hop{}, false
}

// isWhole tells whether an expression initialises what hops lead to as a whole.
func (w *teller) isWhole(hops []api.Hop, x api.Tree) bool {
	p, row := w.at(hops)
	if row.Kind == api.TArray {
		return x.Kind == api.TrStr && row.Elem >= idChar && row.Elem <= idUChar
	}
	if row.Kind == api.TStruct || row.Kind == api.TUnion {
		return x.Kind >= 6 && x.Type == p.Type
	}
	return x.Kind >= 5
}

// part initialises what hops lead to.
func (w *teller) part(hops []api.Hop, x api.Tree, way []int) {
	_, row := w.at(hops)
	aggregate := w.isAggregate(hops)
	single := x.Kind == api.TrList && len(x.Sub) == 1 && x.Sub[0].Kind == api.TrItem && len(x.Sub[0].Sub) == 1
	if single && (aggregate && x.Sub[0].Sub[0].Kind == api.TrStr && w.isWhole(hops, x.Sub[0].Sub[0]) || !aggregate && x.Sub[0].Sub[0].Kind >= 5) {
		x, way = x.Sub[0].Sub[0], slices.Concat(way, []int{0, 0})
	}
	switch {
	case x.Kind == api.TrList && aggregate:
		w.list(hops, x, way)
	case x.Kind == api.TrList || !w.isWhole(hops, x):
		w.fail(api.ErrInit)
	case row.Kind == api.TArray && w.open && len(hops) == 0 && len(x.Text)+1 > api.MaxSize:
		w.fail(api.ErrLarge)
	case row.Kind == api.TArray && w.open && len(hops) == 0:
		w.most = len(x.Text)
		w.leaf(hops, way)
	case row.Kind == api.TArray && len(x.Text) > row.Len:
		w.fail(api.ErrInit)
	default:
		w.leaf(hops, way)
	}
}

// leaf adds a leaf.
func (w *teller) leaf(hops []api.Hop, way []int) {
	if len(w.leaves) == api.MaxLeaves {
		w.fail(api.ErrLarge)
		return
	}
	p, _ := w.at(hops)
	if w.open && len(hops) == 0 {
		p.Type = -1
	}
	w.leaves = append(w.leaves, api.Leaf{Off: p.Off, Bit: p.Bit, Bits: p.Bits, Type: p.Type, Way: way})
}

// list goes through a list's items; place are the hops from its aggregate to where the item ahead began.
func (w *teller) list(hops []api.Hop, x api.Tree, way []int) {
	if w.open && len(hops) == 0 && len(x.Sub) == 0 {
		w.fail(api.ErrInit)
	}
	var place []api.Hop
	for i, item := range x.Sub {
		last := len(item.Sub) - 1
		if item.Kind != api.TrItem || last < 0 {
			w.fail(api.ErrInit)
		}
		if w.err != api.OK {
			return
		}
		if last > 0 {
			place = w.designated(hops, item.Sub[:last])
		} else if place = w.behind(hops, place, i == 0); place == nil {
			w.fail(api.ErrInit)
		}
		by := item.Sub[last]
		for w.err == api.OK && by.Kind != api.TrList {
			here := slices.Concat(hops, place)
			if !w.isAggregate(here) || w.isWhole(here, by) {
				break
			}
			first, ok := w.sister(here, api.Hop{}, true)
			if !ok {
				w.fail(api.ErrInit)
				return
			}
			place = append(place, first)
		}
		if w.err != api.OK {
			return
		}
		w.part(slices.Concat(hops, place), by, slices.Concat(way, []int{i, last}))
	}
}

// begin notes that an element was begun, if it is one of the array whose length is not told.
func (w *teller) begin(hops, place []api.Hop) {
	if w.open && len(hops) == 0 && len(place) == 1 {
		w.most = max(w.most, place[0].Index)
	}
}

// designated are the hops that designators tell.
func (w *teller) designated(hops []api.Hop, designators []api.Tree) []api.Hop {
	var place []api.Hop
	for _, d := range designators {
		_, row := w.at(slices.Concat(hops, place))
		h := api.Hop{Name: d.Text}
		ok := d.Kind == api.TrDot && (row.Kind == api.TStruct || row.Kind == api.TUnion) && d.Text != "" && slices.ContainsFunc(row.Members, func(m api.Member) bool { return m.Name == d.Text })
		if d.Kind == api.TrAt && row.Kind == api.TArray && d.Num >= 0 {
			h, ok = api.Hop{Index: d.Num}, d.Num < row.Len
			if !ok && w.open && len(hops) == 0 && len(place) == 0 {
				w.fail(api.ErrLarge)
			}
		}
		if !ok {
			w.fail(api.ErrInit)
			return nil
		}
		place = append(place, h)
		w.begin(hops, place)
	}
	return place
}

// behind are the hops to the part behind the one that hops lead to: of the innermost aggregate that has another one.
func (w *teller) behind(hops, place []api.Hop, first bool) []api.Hop {
	if first {
		place = []api.Hop{{}}
	}
	for k := len(place) - 1; k >= 0; k-- {
		next, ok := w.sister(slices.Concat(hops, place[:k]), place[k], first)
		if !ok && w.open && len(hops) == 0 && k == 0 {
			w.fail(api.ErrLarge)
		}
		if ok {
			place = append(slices.Clone(place[:k]), next)
			w.begin(hops, place)
			return place
		}
	}
	return nil
}

package initial

import "mortise/api"

// aggregate is an aggregate that is being gone through, and the place of its next part.
type aggregate struct {
	part
	next int
}

// trail tells where one is in a list: the first aggregate of its row is the list's own, each other one lies within the one ahead of it.
type trail struct {
	*flattener
	row []aggregate
}

// byList initialises the parts of an aggregate by a list (P9.3).
func (f *flattener) byList(p part, x api.Tree) error {
	if p.isOpen() && len(x.Sub) == 0 {
		return refuse(api.ErrInit)
	}
	tr := trail{flattener: f}
	tr.enter(p)
	for i, item := range x.Sub {
		if err := tr.byItem(i, item); err != nil {
			return err
		}
	}
	return nil
}

// byItem initialises the part that item i of the list is for.
func (tr *trail) byItem(i int, item api.Tree) error {
	last := len(item.Sub) - 1
	if item.Kind != api.TrItem || last < 0 {
		return refuse(api.ErrInit)
	}
	p, err := tr.find(item.Sub[:last])
	if err != nil {
		return err
	}
	by := item.Sub[last]
	if by.Kind != api.TrList {
		if p, err = tr.descend(p, by); err != nil {
			return err
		}
	}
	return tr.below(i, last, p, by)
}

// find is the part that an item with these designators is for.
func (tr *trail) find(designators []api.Tree) (part, error) {
	if len(designators) == 0 {
		return tr.follow()
	}
	tr.row = tr.row[:1]
	p, err := tr.choose(designators[0])
	for _, d := range designators[1:] {
		if err != nil {
			return part{}, err
		}
		if !p.isAggregate() {
			return part{}, refuse(api.ErrInit)
		}
		tr.enter(p)
		p, err = tr.choose(d)
	}
	return p, err
}

// follow is the part behind that of the item ahead.
func (tr *trail) follow() (part, error) {
	for len(tr.row) > 0 {
		if a := tr.last(); a.has(a.next) {
			return tr.take(a.next)
		}
		tr.row = tr.row[:len(tr.row)-1]
	}
	return part{}, refuse(api.ErrInit)
}

// choose is the part of the last aggregate that a designator speaks of.
func (tr *trail) choose(by api.Tree) (part, error) {
	n, ok := tr.last().chosen(by)
	if !ok {
		return part{}, refuse(api.ErrInit)
	}
	return tr.take(n)
}

// descend goes from a part to its first one, until it comes to one that the expression initialises as a whole.
func (tr *trail) descend(p part, by api.Tree) (part, error) {
	for p.isAggregate() && !p.takes(by) {
		if !p.has(0) {
			return part{}, refuse(api.ErrInit)
		}
		tr.enter(p)
		first, err := tr.take(0)
		if err != nil {
			return part{}, err
		}
		p = first
	}
	return p, nil
}

// enter puts an aggregate behind the row.
func (tr *trail) enter(p part) { tr.row = append(tr.row, aggregate{part: p}) }

// last is the last aggregate of the row.
func (tr *trail) last() *aggregate { return &tr.row[len(tr.row)-1] }

// take is part n of the last aggregate, which goes on behind it.
func (tr *trail) take(n int) (part, error) {
	a := tr.last()
	if a.isOpen() {
		if n >= api.MaxSize/a.stride { // it would end behind MaxSize bytes
			return part{}, refuse(api.ErrLarge)
		}
		tr.begun = max(tr.begun, n+1)
	}
	a.next = n + 1
	if a.kind == api.TArray {
		return part{shape: tr.shape(a.elem), off: a.off + n*a.stride}, nil
	}
	m := a.members[n]
	return part{shape: tr.shape(m.Type), off: a.off + m.Off, bit: m.Bit, bits: m.Bits}, nil
}

package flow

import "slices"

// dominators tell what dominates what. Instructions that are reached have places here: the order in which a walk, depth first, comes to them, so that what dominates an instruction has a lower place.
type dominators struct {
	order   []int // the instruction at each place
	place   []int // the place of each instruction; nowhere, if it is not reached
	parent  []int // at each place: the place from which the walk came there
	nearest []int // at each place: that of the nearest dominator; nowhere, at the first one
}

// dominators makes the graph's dominators. The half-dominator of a place is the lowest one from which a way leads to it through higher places alone; a nearest dominator is the first one that is no higher than that, from the parent on along nearest dominators.
func (g graph) dominators() dominators {
	d := g.walk()
	half := g.halves(d)
	d.nearest = make([]int, len(d.order))
	d.nearest[0] = nowhere
	for p := 1; p < len(d.order); p++ {
		n := d.parent[p]
		for n > half[p] {
			n = d.nearest[n]
		}
		d.nearest[p] = n
	}
	return d
}

// walk gives the instructions their places.
func (g graph) walk() dominators {
	d := dominators{place: slices.Repeat([]int{nowhere}, len(g.next))}
	follow([]int{0}, g.next, func(from, to int) bool {
		if d.place[to] != nowhere {
			return false
		}
		d.place[to] = len(d.order)
		d.order = append(d.order, to)
		above := nowhere
		if from != nowhere {
			above = d.place[from]
		}
		d.parent = append(d.parent, above)
		return true
	})
	return d
}

// halves are the half-dominators of all places. They are made from the highest place down: of a way into a place all but its first step is known by then.
func (g graph) halves(d dominators) []int {
	half := make([]int, len(d.order))
	f := forest{slices.Clone(d.parent), make([]int, len(d.order))}
	for p := len(d.order) - 1; p > 0; p-- {
		half[p] = d.parent[p]
		for _, i := range g.last[d.order[p]] {
			if d.place[i] != nowhere {
				half[p] = min(half[p], f.lowest(d.place[i], p))
			}
		}
		f.low[p] = half[p]
	}
	return half
}

// forest has the places above the one that is looked at. Its ways up are made shorter as they are gone, since long ones would be gone over and over.
type forest struct {
	up  []int // a place further up, at first the parent
	low []int // the lowest half-dominator on the way there
}

// lowest is the lowest half-dominator on the way up from place p as far as it leads above the place bottom; p itself, if it is not above.
func (f forest) lowest(p, bottom int) int {
	if p <= bottom {
		return p
	}
	var way []int
	for ; f.up[p] > bottom; p = f.up[p] {
		way = append(way, p)
	}
	low := f.low[p]
	for _, q := range slices.Backward(way) {
		low = min(low, f.low[q])
		f.low[q], f.up[q] = low, f.up[p]
	}
	return low
}

// list has the nearest dominator of each instruction, or nowhere.
func (d dominators) list() []int {
	list := slices.Repeat([]int{nowhere}, len(d.place))
	for p, n := range d.nearest {
		if n != nowhere {
			list[d.order[p]] = d.order[n]
		}
	}
	return list
}

// above tells whether instruction a dominates instruction b.
func (d dominators) above(a, b int) bool {
	p := d.place[b]
	if p == nowhere || d.place[a] == nowhere {
		return false
	}
	for p > d.place[a] {
		p = d.nearest[p]
	}
	return p == d.place[a]
}

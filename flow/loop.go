package flow

// eachLoop hands on each loop, by its first instruction, rising; the set is the closure's only as long as it runs.
func (g graph) eachLoop(do func(head int, loop set)) {
	back := g.back()
	loop := set{}
	for _, head := range rising(back) {
		clear(loop)
		loop.add(head)
		follow(back[head], g.last, func(_, i int) bool { return loop.add(i) })
		do(head, loop)
	}
}

// back has, for each instruction to which an edge leads back, those from which one does.
func (g graph) back() map[int][]int {
	d := g.dominators()
	back := map[int][]int{}
	for a, next := range g.next {
		for _, b := range next {
			if d.above(b, a) {
				back[b] = append(back[b], a)
			}
		}
	}
	return back
}

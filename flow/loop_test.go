package flow

import "testing"

// sample is a shape of a function, with its nearest dominators, its loops' first instructions, its loops, and how deep instructions are.
type sample struct {
	name        string
	ways        [][]int
	idom, heads []int
	loops       [][]int
	depth       []int
}

// holds asks what the layer answers of some shapes.
func holds(t *testing.T, list ...sample) {
	t.Helper()
	for _, s := range list {
		f := shape(s.ways...)
		a := answers(t, f)
		if !same(a.Idom, s.idom) {
			t.Errorf("%s: Idom %v, want %v", s.name, a.Idom, s.idom)
		}
		if !same(a.Heads, s.heads) || !same(a.Loops, s.loops) {
			t.Errorf("%s: Loops %v: %v, want %v: %v", s.name, a.Heads, a.Loops, s.heads, s.loops)
		}
		if !same(a.Depth, s.depth) {
			t.Errorf("%s: Depth %v, want %v", s.name, a.Depth, s.depth)
		}
		agrees(t, f)
	}
}

// to is where an instruction leads.
func to(list ...int) []int { return list }

// TestP16_3Idom: the nearest dominators of what has no loop.
func TestP16_3Idom(t *testing.T) {
	holds(t,
		sample{name: "one", ways: [][]int{{}}, idom: to(-1), depth: to(0)},
		sample{name: "a row", ways: [][]int{{1}, {2}, {}}, idom: to(-1, 0, 1), depth: to(0, 0, 0)},
		sample{name: "past its end", ways: [][]int{{1}, {2}}, idom: to(-1, 0), depth: to(0, 0)},
		sample{name: "a branch to what stands next", ways: [][]int{{1, 1}, {}}, idom: to(-1, 0), depth: to(0, 0)},
		sample{name: "two ways that meet", ways: [][]int{{1, 3}, {2}, {4}, {4}, {}}, idom: to(-1, 0, 1, 0, 0), depth: to(0, 0, 0, 0, 0)},
		sample{name: "two ways that do not", ways: [][]int{{1, 3}, {2}, {}, {4}, {}}, idom: to(-1, 0, 1, 0, 3), depth: to(0, 0, 0, 0, 0)},
		sample{name: "a way past some", ways: [][]int{{1, 3}, {2}, {3}, {}}, idom: to(-1, 0, 1, 0), depth: to(0, 0, 0, 0)},
		sample{name: "not reached", ways: [][]int{{2}, {2}, {}, {}}, idom: to(-1, -1, 0, -1), depth: to(0, 0, 0, 0)},
		sample{name: "what is not reached leads there", ways: [][]int{{1}, {4}, {3}, {4}, {}}, idom: to(-1, 0, -1, -1, 1), depth: to(0, 0, 0, 0, 0)},
		sample{name: "all behind the end", ways: [][]int{{}, {0}, {1}}, idom: to(-1, -1, -1), depth: to(0, 0, 0)},
		sample{name: "backwards in the text", ways: [][]int{{3}, {}, {1}, {2}}, idom: to(-1, 2, 3, 0), depth: to(0, 0, 0, 0)},
		sample{name: "a row of branches", ways: [][]int{{1, 5}, {2, 5}, {3, 5}, {4, 5}, {5}, {}}, idom: to(-1, 0, 1, 2, 3, 0), depth: to(0, 0, 0, 0, 0, 0)},
		sample{name: "branches within ways", ways: [][]int{{1, 5}, {2, 3}, {4}, {4}, {8}, {6, 7}, {8}, {8}, {}}, idom: to(-1, 0, 1, 1, 1, 0, 5, 5, 0), depth: to(0, 0, 0, 0, 0, 0, 0, 0, 0)},
		sample{name: "half-dominators that are not dominators", ways: [][]int{{1, 4}, {2, 6}, {3}, {7}, {5}, {6, 2}, {3}, {}}, idom: to(-1, 0, 0, 0, 0, 4, 0, 3), depth: to(0, 0, 0, 0, 0, 0, 0, 0)},
	)
}

// TestP16_3Loops: loops that an edge leads back to.
func TestP16_3Loops(t *testing.T) {
	holds(t,
		sample{name: "to itself", ways: [][]int{{0}}, idom: to(-1), heads: to(0), loops: [][]int{{0}}, depth: to(1)},
		sample{name: "a branch to itself", ways: [][]int{{1}, {2, 1}, {}}, idom: to(-1, 0, 1), heads: to(1), loops: [][]int{{1}}, depth: to(0, 1, 0)},
		sample{name: "back to 0", ways: [][]int{{1}, {2, 0}, {}}, idom: to(-1, 0, 1), heads: to(0), loops: [][]int{{0, 1}}, depth: to(1, 1, 0)},
		sample{name: "without an end", ways: [][]int{{1}, {2}, {1}}, idom: to(-1, 0, 1), heads: to(1), loops: [][]int{{1, 2}}, depth: to(0, 1, 1)},
		sample{name: "a way out in the middle", ways: [][]int{{1}, {2, 4}, {3}, {1}, {}}, idom: to(-1, 0, 1, 2, 1), heads: to(1), loops: [][]int{{1, 2, 3}}, depth: to(0, 1, 1, 1, 0)},
		sample{name: "in a loop", ways: [][]int{{1}, {2}, {3, 2}, {4, 1}, {}}, idom: to(-1, 0, 1, 2, 3), heads: to(1, 2), loops: [][]int{{1, 2, 3}, {2}}, depth: to(0, 1, 2, 1, 0)},
		sample{name: "three in one another", ways: [][]int{{1}, {2}, {3}, {4, 2}, {5, 1}, {6, 0}, {}}, idom: to(-1, 0, 1, 2, 3, 4, 5), heads: to(0, 1, 2), loops: [][]int{{0, 1, 2, 3, 4, 5}, {1, 2, 3, 4}, {2, 3}}, depth: to(1, 2, 3, 3, 2, 1, 0)},
		sample{name: "one behind the other", ways: [][]int{{1, 0}, {2, 1}, {3}, {4, 2}, {}}, idom: to(-1, 0, 1, 2, 3), heads: to(0, 1, 2), loops: [][]int{{0}, {1}, {2, 3}}, depth: to(1, 1, 1, 1, 0)},
		sample{name: "two edges back to one", ways: [][]int{{1}, {2, 4}, {3, 1}, {}, {5, 1}, {}}, idom: to(-1, 0, 1, 2, 1, 4), heads: to(1), loops: [][]int{{1, 2, 4}}, depth: to(0, 1, 1, 0, 1, 0)},
		sample{name: "two that share their first, one in the other", ways: [][]int{{1}, {2}, {3, 1}, {4, 1}, {}}, idom: to(-1, 0, 1, 2, 3), heads: to(1), loops: [][]int{{1, 2, 3}}, depth: to(0, 1, 1, 1, 0)},
		sample{name: "to itself and from afar", ways: [][]int{{1}, {2, 1}, {3}, {1}}, idom: to(-1, 0, 1, 2), heads: to(1), loops: [][]int{{1, 2, 3}}, depth: to(0, 1, 1, 1)},
		sample{name: "ways that part and meet within", ways: [][]int{{1, 3}, {2}, {4}, {4}, {5, 0}, {}}, idom: to(-1, 0, 1, 0, 0, 4), heads: to(0), loops: [][]int{{0, 1, 2, 3, 4}}, depth: to(1, 1, 1, 1, 1, 0)},
		sample{name: "the first stands last", ways: [][]int{{3}, {2}, {}, {4}, {5, 1}, {3}}, idom: to(-1, 4, 1, 0, 3, 4), heads: to(3), loops: [][]int{{3, 4, 5}}, depth: to(0, 0, 0, 1, 1, 1)},
	)
}

// TestP16_3NoLoops: what goes round without an edge that leads back is no loop; what is not reached has none, but may be in one.
func TestP16_3NoLoops(t *testing.T) {
	holds(t,
		sample{name: "two ways in", ways: [][]int{{1, 3}, {2}, {3}, {4, 2}, {}}, idom: to(-1, 0, 0, 0, 3), depth: to(0, 0, 0, 0, 0)},
		sample{name: "two ways in, within a loop", ways: [][]int{{1}, {2, 4}, {3}, {4}, {5, 3}, {6, 1}, {}}, idom: to(-1, 0, 1, 1, 1, 4, 5), heads: to(1), loops: [][]int{{1, 2, 3, 4, 5}}, depth: to(0, 1, 1, 1, 1, 1, 0)},
		sample{name: "two ways in, a loop within", ways: [][]int{{1, 3}, {2}, {3}, {4, 3}, {5, 2}, {}}, idom: to(-1, 0, 0, 0, 3, 4), heads: to(3), loops: [][]int{{3}}, depth: to(0, 0, 0, 1, 0, 0)},
		sample{name: "not reached", ways: [][]int{{}, {2}, {1}, {3}}, idom: to(-1, -1, -1, -1), depth: to(0, 0, 0, 0)},
		sample{name: "what is not reached leads into it", ways: [][]int{{2}, {3}, {3}, {4, 2}, {}}, idom: to(-1, -1, 0, 2, 3), heads: to(2), loops: [][]int{{1, 2, 3}}, depth: to(0, 1, 1, 1, 0)},
		sample{name: "it leads to the first of it alone", ways: [][]int{{2}, {2}, {3}, {4, 2}, {}}, idom: to(-1, -1, 0, 2, 3), heads: to(2), loops: [][]int{{2, 3}}, depth: to(0, 0, 1, 1, 0)},
		sample{name: "it leads back to what is reached", ways: [][]int{{1}, {3}, {1}, {4}, {}}, idom: to(-1, 0, -1, 1, 3), depth: to(0, 0, 0, 0, 0)},
		sample{name: "it goes round and into it", ways: [][]int{{4}, {2}, {3, 1}, {5}, {5}, {6, 4}, {}}, idom: to(-1, -1, -1, -1, 0, 4, 5), heads: to(4), loops: [][]int{{1, 2, 3, 4, 5}}, depth: to(0, 1, 1, 1, 1, 1, 0)},
		sample{name: "back to 0 from what is not reached", ways: [][]int{{2}, {0}, {}}, idom: to(-1, -1, 0), depth: to(0, 0, 0)},
	)
}

package tree

import (
	"reflect"
	"slices"
	"testing"

	"mortise/api"
)

// count is Size and Deep, told once more: nodes, and levels without a limit.
func count(x api.Tree) (int, int) {
	size, deep := 1, 0
	for _, s := range x.Sub {
		n, d := count(s)
		size, deep = size+n, max(deep, d)
	}
	return size, deep + 1
}

// wild makes a tree of any kinds, texts and numbers.
func (g *grower) wild(levels int) api.Tree {
	x := api.Tree{Kind: api.TreeKind(g.Intn(120) - 10), Text: pick(g, []string{"", "a", "+", "\x00"}), Num: g.Intn(3) - 1, Type: g.Intn(3) - 1, At: api.Spot{Line: g.Intn(2), Col: g.Intn(2), Off: g.Intn(2)}}
	for range g.Intn(4) {
		if levels > 1 {
			x.Sub = append(x.Sub, g.wild(levels-1))
		}
	}
	return x
}

func TestP4_1Size(t *testing.T) {
	a := name("a")
	for _, c := range []struct {
		x          api.Tree
		size, deep int
	}{
		{api.Tree{}, 1, 1}, {a, 1, 1}, {api.Tree{Kind: -5, Sub: []api.Tree{}}, 1, 1}, {un("-", a), 2, 2}, {bi("+", a, a), 3, 2}, {bi("+", un("-", un("-", a)), a), 5, 4}, {bi("+", a, un("-", un("-", a))), 5, 4}, {of(99, a, a, a, a), 5, 2}, {bi("+", bi("+", a, a), bi("+", a, a)), 7, 3},
	} {
		if n, d := Size(c.x), Deep(c.x); n != c.size || d != c.deep {
			t.Errorf("%s has %d nodes and %d levels", brief(c.x), n, d)
		}
	}
	g := newGrower(4)
	for range 3000 {
		x := g.wild(7)
		size, deep := count(x)
		if n, d := Size(x), Deep(x); n != size || d != deep {
			t.Errorf("%s has %d nodes and %d levels, want %d, %d", brief(x), n, d, size, deep)
		}
	}
}

func TestP4_1Deep(t *testing.T) {
	x := name("a")
	for levels := 1; levels < 3*api.MaxNest; levels++ {
		if n, d := Size(x), Deep(x); n != levels || d != min(levels, api.MaxNest+1) {
			t.Errorf("%d levels: %d nodes, %d levels", levels, n, d)
		}
		beside := of(7, name("a"), x, un("-", name("b")))
		if d := Deep(beside); d != min(max(levels+1, 3), api.MaxNest+1) {
			t.Errorf("%d levels beside others: %d", levels+1, d)
		}
		x = of(0, x)
	}
}

// TestP4_1Huge tries a tree far deeper than a right one, and one with very many parts.
func TestP4_1Huge(t *testing.T) {
	const levels = 1 << 20
	x := name("a")
	for range levels - 1 {
		x = un("-", x)
	}
	if Size(x) != levels || Deep(x) != api.MaxNest+1 || !Same(x, Bare(x)) || Same(x, x.Sub[0]) {
		t.Error("a deep tree is not gone through")
	}
	refuses(t, x)
	wide := node(api.TrCall, "f", 0, make([]api.Tree, 1<<16)...)
	for i := range wide.Sub {
		wide.Sub[i] = name("a")
	}
	takes(t, wide)
	if Size(wide) != 1<<16+1 || Deep(wide) != 2 || !Same(wide, Bare(wide)) {
		t.Error("a wide tree is not gone through")
	}
}

// TestP4_1Round tries a list that stands within itself: its levels have no end, so it is refused.
func TestP4_1Round(t *testing.T) {
	l := []api.Tree{un("-", name("a")), un("-", name("a"))}
	l[0].Sub, l[1].Sub = l[:1], l
	if Deep(l[0]) != api.MaxNest+1 || Deep(l[1]) != api.MaxNest+1 || Check(l[0]) != api.ErrTree || Check(of(api.TrBi, l...)) != api.ErrTree {
		t.Error("a list within itself is taken")
	}
}

func TestP4_1Same(t *testing.T) {
	x := node(api.TrCall, "f", 1, name("a"), un("-", name("b")))
	x.Type = 2
	turns := []func(y *api.Tree){
		func(y *api.Tree) { y.Kind++ }, func(y *api.Tree) { y.Text += "x" }, func(y *api.Tree) { y.Text = "" }, func(y *api.Tree) { y.Num++ }, func(y *api.Tree) { y.Type = -y.Type - 1 },
		func(y *api.Tree) { y.Sub = append(y.Sub, name("a")) },
	}
	for _, turn := range turns {
		for i, at := range []func(y *api.Tree) *api.Tree{
			func(y *api.Tree) *api.Tree { return y }, func(y *api.Tree) *api.Tree { return &y.Sub[0] }, func(y *api.Tree) *api.Tree { return &y.Sub[1] }, func(y *api.Tree) *api.Tree { return &y.Sub[1].Sub[0] },
		} {
			y := Bare(x)
			turn(at(&y))
			if Same(x, y) || Same(y, x) {
				t.Errorf("Same of %s and %s (place %d)", brief(x), brief(y), i)
			}
		}
	}
	y := Bare(x)
	y.Sub = y.Sub[:1]
	if Same(x, y) || Same(y, x) || Same(bi("+", name("a"), name("b")), bi("+", name("b"), name("a"))) {
		t.Error("Same does not look at all parts")
	}
	y = Bare(x)
	y.At, y.Sub[1].At, y.Sub[1].Sub[0].At = api.Spot{Line: 1}, api.Spot{Col: 2}, api.Spot{Off: -3}
	y.Sub[0].Sub = []api.Tree{}
	if !Same(x, y) || !Same(y, x) || !Same(x, x) || !Same(api.Tree{}, api.Tree{Sub: []api.Tree{}}) {
		t.Error("Same looks at spots, or at empty lists")
	}
}

func TestP4_1Bare(t *testing.T) {
	g := newGrower(5)
	for range 2000 {
		x := g.wild(6)
		before := clone(x, false)
		y := Bare(x)
		if !reflect.DeepEqual(x, before) {
			t.Fatalf("Bare turned its argument: %s", brief(before))
		}
		if want := clone(x, true); !reflect.DeepEqual(y, want) {
			t.Fatalf("Bare answers %s, want %s", brief(y), brief(want))
		}
		scratch(y)
		if !reflect.DeepEqual(x, before) {
			t.Fatalf("Bare's answer shares memory with its argument: %s", brief(before))
		}
	}
	if y := Bare(api.Tree{Kind: 1, Sub: []api.Tree{}}); len(y.Sub) != 0 || y.Kind != 1 {
		t.Error(y)
	}
}

// clone is a copy, with spots or without.
func clone(x api.Tree, bare bool) api.Tree {
	x.Sub = slices.Clone(x.Sub)
	if bare {
		x.At = api.Spot{}
	}
	for i := range x.Sub {
		x.Sub[i] = clone(x.Sub[i], bare)
	}
	return x
}

// scratch writes over all lists of a tree, and over what room they have behind their ends.
func scratch(x api.Tree) {
	for i := range x.Sub {
		scratch(x.Sub[i])
		x.Sub[i] = api.Tree{Kind: 77, Text: "scratch"}
	}
	room := x.Sub[len(x.Sub):cap(x.Sub)]
	for i := range room {
		room[i].Kind = 78
	}
}

func TestP4_1NotChanged(t *testing.T) {
	g := newGrower(6)
	for range 1000 {
		x := g.change(g.any(5))
		before := clone(x, false)
		first, err := Print(x)
		Check(x)
		Size(x)
		Deep(x)
		Same(x, x)
		if again, errAgain := Print(x); again != first || errAgain != err || !reflect.DeepEqual(x, before) {
			t.Fatalf("a call turned %s", brief(before))
		}
	}
}

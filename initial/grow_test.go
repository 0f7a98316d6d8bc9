package initial

import (
	"math/rand"
	"strconv"
	"testing"

	"mortise/api"
	"mortise/ctype"
)

// dice grows tables of types, and initialisers.
type dice struct {
	*rand.Rand
	*ctype.Table
}

// whole is a type that has a size: mostly a late one.
func (d dice) whole() int {
	for {
		id := d.Intn(d.Len())
		if d.Intn(2) == 0 {
			id = max(0, d.Len()-1-d.Intn(4))
		}
		if d.Whole(id) {
			return id
		}
	}
}

// member is a member that has the name, if it may have one.
func (d dice) member(name string) api.Member {
	if d.Intn(3) > 0 {
		return api.Member{Name: name, Type: d.whole(), Bits: -1}
	}
	id := idBool + d.Intn(idULong-idBool+1)
	most := []int{1, 8, 8, 8, 16, 16, 32, 32, 32, 32}[id-idBool]
	switch d.Intn(5) {
	case 0:
		return api.Member{Type: id}
	case 1:
		return api.Member{Type: id, Bits: 1 + d.Intn(most)}
	}
	return api.Member{Name: name, Type: id, Bits: 1 + d.Intn(most)}
}

// members are members of a struct or a union.
func (d dice) members() []api.Member {
	l := make([]api.Member, 1+d.Intn(5))
	for i := range l {
		l[i] = d.member("m" + strconv.Itoa(i))
	}
	return l
}

// grow makes one more type.
func (d dice) grow() {
	switch k := d.Intn(10); k {
	case 0:
		d.Ptr(d.Intn(d.Len()))
	case 1:
		d.Array(idChar+d.Intn(3), 1+d.Intn(4))
	case 2:
		d.Enum("E")
	case 3, 4:
		d.Array(d.whole(), 1+d.Intn(3))
	case 5:
		d.Array(d.whole(), -1)
	case 6:
		id, _ := d.Union("U")
		d.Complete(id, d.members())
	default:
		id, _ := d.Struct("S")
		d.Complete(id, d.members())
	}
}

// grown is a table with some types more than the basic ones.
func grown(seed int64) dice {
	d := dice{rand.New(rand.NewSource(seed)), ctype.New()}
	for range 12 {
		d.grow()
	}
	return d
}

// initialiser is one for a type, or for whatever comes, if that is below 0. It fits mostly, since an expression fits every scalar.
func (d dice) initialiser(id, deep int) api.Tree {
	row, _ := d.Row(id)
	aggregate := row.Kind >= api.TArray
	k := d.Intn(24)
	switch {
	case k == 0 && d.Intn(4) == 0:
		return api.Tree{Kind: api.TreeKind(d.Intn(8) - 1)}
	case k <= 1, k <= 8 && d.isText(row):
		return str("abcde"[:d.Intn(4)])
	case k <= 2:
		return api.Tree{Kind: api.TrName, Type: d.Intn(d.Len())}
	case k <= 6 && aggregate && deep > 0:
		return api.Tree{Kind: api.TrName, Type: id}
	case k <= 4, k <= 18 && aggregate, deep == 0 && aggregate:
		return d.list(id, deep+1)
	}
	return num()
}

// isText tells whether a row is a character array's.
func (d dice) isText(row api.TypeRow) bool {
	return row.Kind == api.TArray && row.Elem >= idChar && row.Elem <= idUChar
}

// list is a list for a type.
func (d dice) list(id, deep int) api.Tree {
	x := list()
	row, _ := d.Row(id)
	n := min(d.Intn(6), d.Intn(8)) + min(1, d.Intn(12))
	if row.Kind < api.TArray {
		n = min(n, 1)
	}
	for i := range n {
		x.Sub = append(x.Sub, d.item(row, i, deep))
	}
	if d.Intn(300) == 0 && len(x.Sub) > 0 {
		x.Sub[0].Kind = api.TreeKind(d.Intn(7))
	}
	return x
}

// guess is the type of part i of a row, if those ahead of it were initialised each by one item, or -1.
func (d dice) guess(row api.TypeRow, i int) int {
	if row.Kind == api.TArray && row.Len != 0 {
		return row.Elem
	}
	for _, m := range row.Members {
		if m.Name != "" {
			if i == 0 {
				return m.Type
			}
			i--
		}
	}
	return -1
}

// item is item i of a list for a row, which designators may lead further.
func (d dice) item(row api.TypeRow, i, deep int) api.Tree {
	id := d.guess(row, i)
	var l []api.Tree
	for d.Intn(4) == 0 || len(l) > 0 && d.Intn(2) == 0 {
		if row.Kind < api.TArray && d.Intn(12) > 0 {
			break
		}
		step, part := d.step(row)
		l = append(l, step)
		id = part
		row, _ = d.Row(part)
	}
	if d.Intn(400) == 0 {
		return item(l...)
	}
	return item(append(l, d.initialiser(id, deep))...)
}

// step is a designator for a row, mostly one that fits, and the part's type.
func (d dice) step(row api.TypeRow) (api.Tree, int) {
	wrong := d.Intn(40) == 0
	switch {
	case row.Kind == api.TArray && !wrong:
		if row.Len == -1 && d.Intn(3) == 0 {
			return at(d.Intn(1 << (2 + d.Intn(15)))), row.Elem
		}
		return at(d.Intn(max(row.Len, 3) + d.Intn(8)/7)), row.Elem
	case (row.Kind == api.TStruct || row.Kind == api.TUnion) && !wrong && len(row.Members) > 0:
		m := row.Members[d.Intn(len(row.Members))]
		return dot(m.Name), m.Type
	case d.Intn(2) == 0:
		return dot("m" + strconv.Itoa(d.Intn(4))), -1
	}
	return at(d.Intn(6) - 1), -1
}

// eachGrown hands out grown tables with a type of them and an initialiser for it.
func eachGrown(t *testing.T, seeds int, do func(d dice, id int, x api.Tree)) {
	t.Helper()
	for seed := range int64(seeds) {
		d := grown(seed)
		for id := firstFree; id < d.Len(); id++ {
			for range 6 {
				do(d, id, d.initialiser(id, 0))
				if t.Failed() {
					t.Fatalf("seed %d, type %d: %v", seed, id, d.Rows()[firstFree:])
				}
			}
		}
	}
}

package initial

import (
	"fmt"
	"testing"

	"mortise/api"
)

// tally counts what grown initialisers come to.
type tally struct {
	errors                                            map[api.Errno]int
	leaves, fields, records, texts, deep, again, open int
}

// add counts the leaves of an initialiser that was taken.
func (n *tally) add(d dice, l []api.Leaf) {
	seen := map[int]int{}
	for _, x := range l {
		row, _ := d.Row(x.Type)
		n.leaves++
		n.fields += min(x.Bits, 1)
		n.again += seen[8*x.Off+x.Bit]
		seen[8*x.Off+x.Bit] = 1
		switch {
		case row.Kind >= api.TStruct:
			n.records++
		case row.Kind == api.TArray:
			n.texts++
		}
		if len(x.Way) >= 4 {
			n.deep++
		}
	}
}

// wantEnough asks that all of it was tried often enough.
func (n *tally) wantEnough(t *testing.T) {
	t.Helper()
	for _, c := range []struct {
		what       string
		count, few int
	}{
		{"initialisers without an error", n.errors[api.OK], 10000}, {"ErrInit", n.errors[api.ErrInit], 5000}, {"ErrLarge", n.errors[api.ErrLarge], 100},
		{"leaves", n.leaves, 20000}, {"bit-fields", n.fields, 2000}, {"records", n.records, 500}, {"character arrays", n.texts, 1000},
		{"leaves within several lists", n.deep, 2000}, {"places met again", n.again, 1000}, {"arrays whose length was told", n.open, 500},
	} {
		if c.count < c.few {
			t.Errorf("only %d %s, want %d", c.count, c.what, c.few)
		}
	}
}

// TestP9_1Any: grown initialisers of grown types are flattened as the second telling says.
func TestP9_1Any(t *testing.T) {
	n := tally{errors: map[api.Errno]int{}}
	eachGrown(t, 700, func(d dice, id int, x api.Tree) {
		want, length, wantErr := tell(d.Table, id, x)
		c, rows, before := d.Copy(), d.Rows(), fmt.Sprint(x)
		l, whole, err := Flatten(c, id, x)
		n.errors[err]++
		if fmt.Sprint(x) != before {
			t.Errorf("the initialiser was %s and is %v", before, x)
		}
		if err != wantErr {
			t.Errorf("%v: error %d, want %d", x, err, wantErr)
			return
		}
		if err != api.OK {
			if len(l) != 0 || whole != 0 || !sameRows(c.Rows(), rows) {
				t.Errorf("%v: beside error %d %v, %d, and the table has %d rows", x, err, l, whole, c.Len())
			}
			return
		}
		if length > 0 {
			n.open++
			rows[id].Len = length
		}
		if row, _ := c.Row(whole); fmt.Sprint(row) != fmt.Sprint(rows[id]) || length == 0 && whole != id {
			t.Errorf("%v: type %d is %v, want %v", x, whole, row, rows[id])
		}
		for i := range want {
			if want[i].Type == -1 {
				want[i].Type = whole
			}
		}
		if fmt.Sprint(l) != fmt.Sprint(want) {
			t.Errorf("%v: got %v, want %v", x, l, want)
		}
		n.add(d, l)
	})
	n.wantEnough(t)
}

package ctype

import (
	"math"
	"strconv"
	"testing"

	"mortise/api"
)

func TestP3_2Basic(t *testing.T) {
	c, _ := sample(t)
	same := unchanged(t, c)
	for k := api.TypeKind(-20); k <= 40; k++ {
		got, err := c.Basic(k)
		if k < api.TVoid || k > api.TULong {
			wantRefused(t, "Basic("+strconv.Itoa(int(k))+")", got, err, api.ErrType)
			continue
		}
		if row, ok := c.Row(got); err != api.OK || got != int(k)-1 || !ok || row.Kind != k {
			t.Errorf("Basic(%d) = %d, %d", k, got, err)
		}
	}
	for _, k := range []api.TypeKind{math.MaxInt, math.MinInt, 1<<32 + 1, -1<<32 + 1, 512} {
		got, err := c.Basic(k)
		wantRefused(t, "Basic", got, err, api.ErrType)
	}
	same("Basic")
}

// taggers are the three calls that make a type of a tag, by the kind they make.
func taggers(c *Table) map[api.TypeKind]func(string) (int, api.Errno) {
	return map[api.TypeKind]func(string) (int, api.Errno){api.TEnum: c.Enum, api.TStruct: c.Struct, api.TUnion: c.Union}
}

func TestP3_2Tagged(t *testing.T) {
	c := New()
	for k, make := range taggers(c) {
		for _, tag := range append(goodTags(), goodTags()...) {
			next := c.Len()
			if got := id(t)(make(tag)); got != next || c.Len() != next+1 {
				t.Errorf("%q of kind %d is %d of %d, want %d", tag, k, got, c.Len(), next)
			}
			if row, ok := c.Row(next); !ok || !sameRow(row, api.TypeRow{Kind: k, Tag: tag}) {
				t.Errorf("row %d is %v", next, row)
			}
		}
		same := unchanged(t, c)
		for _, tag := range badTags() {
			got, err := make(tag)
			wantRefused(t, strconv.Quote(tag), got, err, api.ErrTag)
		}
		same("a tag that is none")
	}
}

func TestP3_2Ptr(t *testing.T) {
	c, _ := sample(t)
	made := map[int]int{}
	for elem := range c.Len() {
		made[elem] = id(t)(c.Ptr(elem))
		if row, ok := c.Row(made[elem]); !ok || !sameRow(row, api.TypeRow{Kind: api.TPtr, Elem: elem}) {
			t.Errorf("Ptr(%d) is %v", elem, row)
		}
	}
	same := unchanged(t, c)
	for elem, want := range made {
		if got := id(t)(c.Ptr(elem)); got != want {
			t.Errorf("Ptr(%d) = %d, then %d", elem, want, got)
		}
	}
	for _, elem := range noTypes(c.Len()) {
		got, err := c.Ptr(elem)
		wantRefused(t, "Ptr("+strconv.Itoa(elem)+")", got, err, api.ErrType)
	}
	same("pointers that were there, or are refused")
}

func TestP3_2PtrChain(t *testing.T) {
	c := New()
	last := idInt
	for range api.MaxTypes - firstFree {
		next := c.Len()
		if last = id(t)(c.Ptr(last)); last != next {
			t.Fatalf("%d, want %d", last, next)
		}
	}
	got, err := c.Ptr(api.MaxTypes - 1)
	wantRefused(t, "one more", got, err, api.ErrFull)
}

func TestP3_2ArrayLengths(t *testing.T) {
	c, n := sample(t)
	for _, elem := range []int{idBool, idULong, n["enum E"], n["struct S"], n["union U"], n["int (*)[]"], n["struct S [2]"]} {
		for _, length := range []int{-1, 1, 4, 16383, 16384} {
			want := c.Len()
			if got := id(t)(c.Array(elem, length)); got != want {
				t.Errorf("Array(%d, %d) = %d, want %d", elem, length, got, want)
			}
			if row, ok := c.Row(want); !ok || !sameRow(row, api.TypeRow{Kind: api.TArray, Elem: elem, Len: length}) {
				t.Errorf("Array(%d, %d) is %v", elem, length, row)
			}
			if got := id(t)(c.Array(elem, length)); got != want || c.Len() != want+1 {
				t.Errorf("Array(%d, %d) again = %d, want %d", elem, length, got, want)
			}
		}
		same := unchanged(t, c)
		for _, length := range []int{0, -2, -3, -16384, 16385, 1 << 16, 1<<32 + 1, 1<<32 - 1, math.MaxInt, math.MinInt} {
			got, err := c.Array(elem, length)
			wantRefused(t, "Array("+strconv.Itoa(elem)+", "+strconv.Itoa(length)+")", got, err, api.ErrArg)
		}
		same("arrays that are refused")
	}
}

// TestP3_2ArrayOrder: no such type, then what is not whole, then the length.
func TestP3_2ArrayOrder(t *testing.T) {
	c, n := sample(t)
	same := unchanged(t, c)
	for _, length := range []int{-1, 0, 1, 3, 16385, -2} {
		for _, elem := range noTypes(c.Len()) {
			got, err := c.Array(elem, length)
			wantRefused(t, "Array("+strconv.Itoa(elem)+")", got, err, api.ErrType)
		}
		for _, elem := range []int{idVoid, n["struct open"], n["union #3"], n["int []"]} {
			got, err := c.Array(elem, length)
			wantRefused(t, "Array("+strconv.Itoa(elem)+")", got, err, api.ErrIncomplete)
		}
	}
	same("arrays that are refused")
}

// TestP3_2Like: a pointer is not an array, and lengths part arrays.
func TestP3_2Like(t *testing.T) {
	c := New()
	seen := map[int]int{}
	for round := range 2 {
		for elem := idBool; elem <= idULong; elem++ {
			made := []int{id(t)(c.Ptr(elem)), id(t)(c.Array(elem, -1)), id(t)(c.Array(elem, 1)), id(t)(c.Array(elem, 2)), id(t)(c.Array(elem, elem+2))}
			for _, k := range made {
				seen[k]++
				if seen[k] != round+1 {
					t.Errorf("type %d came %d times in round %d", k, seen[k], round)
				}
			}
		}
	}
	if c.Len() != 11+50 || len(seen) != 50 {
		t.Errorf("%d types, %d seen", c.Len(), len(seen))
	}
}

func TestP3_2Full(t *testing.T) {
	c, n := sample(t)
	fill(t, c, api.MaxTypes-1)
	last := id(t)(c.Struct("last"))
	if last != 511 || c.Len() != 512 {
		t.Fatalf("the last type is %d of %d", last, c.Len())
	}
	same := unchanged(t, c)
	for k, make := range taggers(c) {
		got, err := make("more")
		wantRefused(t, "kind "+strconv.Itoa(int(k)), got, err, api.ErrFull)
		got, err = make("1")
		wantRefused(t, "kind "+strconv.Itoa(int(k)), got, err, api.ErrTag)
	}
	got, err := c.Ptr(idInt)
	wantRefused(t, "Ptr", got, err, api.ErrFull)
	got, err = c.Ptr(512)
	wantRefused(t, "Ptr of none", got, err, api.ErrType)
	got, err = c.Array(idInt, 4)
	wantRefused(t, "Array", got, err, api.ErrFull)
	got, err = c.Array(512, 4)
	wantRefused(t, "Array of none", got, err, api.ErrType)
	got, err = c.Array(last, 4)
	wantRefused(t, "Array of what is not whole", got, err, api.ErrIncomplete)
	got, err = c.Array(idInt, 0)
	wantRefused(t, "Array of none", got, err, api.ErrArg)
	if id(t)(c.Ptr(idVoid)) != n["void *"] || id(t)(c.Array(idInt, 3)) != n["int [3]"] || id(t)(c.Array(idInt, -1)) != n["int []"] || id(t)(c.Basic(api.TInt)) != idInt {
		t.Error("a full table does not find what it has")
	}
	same("calls at a full table")
	if err := c.Complete(last, manyMembers(64)); err != api.OK || !c.Whole(last) {
		t.Error("members in a full table:", err)
	}
}

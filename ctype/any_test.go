package ctype

import (
	"math/rand"
	"slices"
	"testing"

	"mortise/api"
)

// slow is a table as the document tells it, without anything that makes it quick.
type slow struct{ rows []api.TypeRow }

func (s *slow) has(k int) bool { return slices.Contains(s.ids(), k) }

func (s *slow) ids() []int {
	var l []int
	for i := range s.rows {
		l = append(l, i)
	}
	return l
}

func (s *slow) whole(k int) bool {
	if !s.has(k) {
		return false
	}
	row := s.rows[k]
	return row.Kind >= api.TBool && row.Kind <= api.TPtr || row.Kind == api.TArray && row.Len > 0 || row.Done
}

func (s *slow) push(row api.TypeRow, once bool) (int, api.Errno) {
	for i, r := range s.rows {
		if once && sameRow(r, row) {
			return i, api.OK
		}
	}
	if len(s.rows) == 512 {
		return 0, api.ErrFull
	}
	s.rows = append(s.rows, row)
	return len(s.rows) - 1, api.OK
}

func (s *slow) array(elem, n int) (int, api.Errno) {
	if !s.has(elem) {
		return 0, api.ErrType
	} else if !s.whole(elem) {
		return 0, api.ErrIncomplete
	} else if n < -1 || n == 0 || n > 16384 {
		return 0, api.ErrArg
	}
	return s.push(arrayOf(elem, n), true)
}

// member tells what is wrong with one member behind those ahead of it.
func (s *slow) member(m api.Member, ahead []api.Member) api.Errno {
	most := fieldKinds()
	for i, row := range s.rows {
		if row.Kind == api.TEnum {
			most[i] = 32
		}
	}
	width, integer := most[m.Type]
	twice := slices.ContainsFunc(ahead, func(a api.Member) bool { return m.Name != "" && a.Name == m.Name })
	switch {
	case !s.has(m.Type):
		return api.ErrType
	case !s.whole(m.Type):
		return api.ErrIncomplete
	case m.Bits < -1 || m.Bits >= 0 && (!integer || m.Bits > width):
		return api.ErrBits
	case m.Name == "" && m.Bits == -1, m.Name != "" && m.Bits == 0, twice, m.Name == "#1", m.Name == "1":
		return api.ErrTag
	}
	return api.OK
}

func (s *slow) complete(k int, members []api.Member) api.Errno {
	if !s.has(k) || s.rows[k].Kind < api.TStruct {
		return api.ErrType
	} else if s.rows[k].Done {
		return api.ErrDone
	} else if len(members) == 0 || len(members) > 64 {
		return api.ErrArg
	}
	for i, m := range members {
		if err := s.member(m, members[:i]); err != api.OK {
			return err
		}
	}
	s.rows[k].Members, s.rows[k].Done = slices.Clone(members), true
	return api.OK
}

// anyID is a number, mostly one of n types.
func anyID(r *rand.Rand, n int) int {
	if r.Intn(12) == 0 {
		return r.Intn(n+6) - 3
	}
	return r.Intn(n)
}

// anyMembers are some members, often such as are refused.
func anyMembers(r *rand.Rand, n int) []api.Member {
	l := make([]api.Member, r.Intn(5))
	for i := range l {
		l[i] = api.Member{Name: string(rune('a' + r.Intn(9))), Type: anyID(r, n), Bits: -1}
		if r.Intn(4) == 0 {
			l[i].Bits = []int{-2, 0, 1, 2, 8, 9, 16, 17, 32, 33}[r.Intn(10)]
			l[i].Type = anyID(r, 16)
		}
		if r.Intn(8) == 0 {
			l[i].Name = []string{"", "", "#1", "1"}[r.Intn(4)]
		}
	}
	return l
}

// step does one call at both tables, and tells whether they answer the same.
func step(r *rand.Rand, c *Table, s *slow) bool {
	var got, want int
	var err, wrong api.Errno
	k := anyID(r, c.Len())
	switch r.Intn(7) {
	case 0:
		n := []int{-1, 1, 2, 16384, 0, 16385, -2}[r.Intn(7)]
		got, err = c.Array(k, n)
		want, wrong = s.array(k, n)
	case 1:
		got, err = c.Ptr(k)
		want, wrong = 0, api.ErrType
		if s.has(k) {
			want, wrong = s.push(ptrTo(k), true)
		}
	case 2:
		got, err = c.Struct("S")
		want, wrong = s.push(api.TypeRow{Kind: api.TStruct, Tag: "S"}, false)
	case 3:
		got, err = c.Union("#2")
		want, wrong = s.push(api.TypeRow{Kind: api.TUnion, Tag: "#2"}, false)
	case 4:
		got, err = c.Enum("E")
		want, wrong = s.push(api.TypeRow{Kind: api.TEnum, Tag: "E"}, false)
	default:
		members := anyMembers(r, c.Len())
		err, wrong = c.Complete(k, members), s.complete(k, members)
	}
	return got == want && err == wrong && sameRows(c.Rows(), s.rows) && c.Whole(k) == s.whole(k)
}

// TestP3_7AnyCalls holds tables against slow ones, call by call, until they are full, and makes each again of its rows.
func TestP3_7AnyCalls(t *testing.T) {
	r := rand.New(rand.NewSource(4))
	for range 30 {
		c, s := New(), &slow{New().Rows()}
		for i := range 1200 {
			if !step(r, c, s) {
				t.Fatalf("call %d: %v, want %v", i, c.Rows(), s.rows)
			}
		}
		wantFrom(t, "any calls", c.Rows(), true)
		if c.Len() != 512 || isCircular(c.Rows()) {
			t.Fatal(c.Len(), "or a type within itself")
		}
	}
}

// isCircular asks for types within themselves by all pairs of types of which one lies within the other.
func isCircular(rows []api.TypeRow) bool {
	within := make([][]bool, len(rows))
	for i, row := range rows {
		within[i] = make([]bool, len(rows))
		if row.Kind == api.TArray {
			within[i][row.Elem] = true
		}
		for _, m := range row.Members {
			within[i][m.Type] = true
		}
	}
	for k := range rows {
		for i := range rows {
			for j := range rows {
				if !within[i][k] {
					break
				}
				within[i][j] = within[i][j] || within[k][j]
			}
		}
	}
	for i := range rows {
		if within[i][i] {
			return true
		}
	}
	return false
}

// mayBe tells of rows what P3.5 says, row by row.
func mayBe(rows []api.TypeRow) bool {
	s := &slow{rows}
	for i, row := range rows {
		tag, derived, record := row.Tag != "", row.Elem != 0 || row.Len != 0, row.Done || len(row.Members) != 0
		good := false
		switch row.Kind {
		case api.TEnum:
			good = !derived && !record && Tag(row.Tag)
		case api.TPtr:
			good = !tag && !record && row.Len == 0 && 0 <= row.Elem && row.Elem < i
		case api.TArray:
			good = !tag && !record && 0 <= row.Elem && row.Elem < i && s.whole(row.Elem) && row.Len >= -1 && row.Len != 0 && row.Len <= 16384
		case api.TStruct, api.TUnion:
			again := &slow{slices.Clone(rows)}
			again.rows[i].Done = false
			good = !derived && Tag(row.Tag) && (!record || row.Done && completes(again, i, row.Members))
		default:
			good = i < 11 && int(row.Kind) == i+1 && !tag && !derived && !record
		}
		once := func(r api.TypeRow) bool { return sameRow(r, row) && (row.Kind == api.TPtr || row.Kind == api.TArray) }
		if !good || i < 11 && row.Kind > api.TULong || slices.ContainsFunc(rows[:i], once) {
			return false
		}
	}
	return len(rows) >= 11 && len(rows) <= 512 && !isCircular(rows)
}

// completes tells whether members may be those of type k; itself as a member is left to isCircular.
func completes(s *slow, k int, members []api.Member) bool {
	others := slices.Clone(members)
	for i := range others {
		if others[i].Type == k {
			others[i].Type = idVoid
			if others[i].Bits == -1 {
				others[i].Type = 1 // as whole as it is, once it is done, and no more a bit-field than it
			}
		}
	}
	return s.complete(k, others) == api.OK
}

// turn changes something of some row, so that most rows stay a table's.
func turn(r *rand.Rand, rows []api.TypeRow) []api.TypeRow {
	i := r.Intn(len(rows))
	if r.Intn(4) > 0 && len(rows) > 11 {
		i = 11 + r.Intn(len(rows)-11)
	}
	row := &rows[i]
	switch r.Intn(11) {
	case 0:
		row.Elem = anyID(r, len(rows))
	case 1:
		row.Len = []int{-1, 1, 2, 3, 16384, 0, 16385, -2}[r.Intn(8)]
	case 2:
		row.Tag = []string{"", "T", "#7", "1", "#"}[r.Intn(5)]
	case 3:
		row.Done = !row.Done
	case 4:
		row.Kind = api.TypeKind(r.Intn(18))
	case 5:
		row.Members = anyMembers(r, len(rows))
	case 6:
		j := r.Intn(len(rows))
		rows[i], rows[j] = rows[j], rows[i]
	case 7:
		return append(rows, deep(rows[i:i+1])...)
	case 8:
		return slices.Delete(rows, i, i+1)
	default:
		if len(row.Members) > 0 {
			row.Members[r.Intn(len(row.Members))].Type = anyID(r, len(rows))
		}
	}
	return rows
}

// TestP3_5AnyRows holds From against mayBe, at rows of which something was changed.
func TestP3_5AnyRows(t *testing.T) {
	r := rand.New(rand.NewSource(5))
	told := map[bool]int{}
	for range 3000 {
		c := New()
		s := &slow{New().Rows()}
		for range 10 + r.Intn(40) {
			step(r, c, s)
		}
		rows := c.Rows()
		for range 1 + r.Intn(2) {
			rows = turn(r, rows)
		}
		want := mayBe(rows)
		told[want]++
		wantFrom(t, "any rows", rows, want)
	}
	if told[true] < 300 || told[false] < 300 {
		t.Errorf("%d tables, %d refused", told[true], told[false])
	}
}

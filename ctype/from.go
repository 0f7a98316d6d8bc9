package ctype

import "mortise/api"

// From makes a table of rows.
func From(rows []api.TypeRow) (*Table, api.Errno) {
	if len(rows) < basics || len(rows) > api.MaxTypes {
		return nil, api.ErrType
	}
	t := &Table{rows: copyRows(rows), found: map[shape]int{}}
	for id := range t.rows {
		if !t.enter(id) {
			return nil, api.ErrType
		}
	}
	if t.circular() {
		return nil, api.ErrType
	}
	return t, api.OK
}

// enter tells whether a row may stand where it does, and makes it one that is found. Rows behind it are asked as they are: each of them is entered in its turn.
func (t *Table) enter(id int) bool {
	row := t.rows[id]
	if hasMore(row) {
		return false
	}
	if id < basics {
		return row.Kind == api.TVoid+api.TypeKind(id)
	}
	switch row.Kind {
	case api.TEnum:
		return Tag(row.Tag)
	case api.TStruct, api.TUnion:
		return Tag(row.Tag) && (!row.Done || t.refusal(row.Members) == api.OK)
	case api.TPtr:
		return t.enterDerived(id)
	case api.TArray:
		return t.enterDerived(id) && t.Whole(row.Elem) && isLength(row.Len)
	}
	return false
}

// enterDerived makes a pointer or an array one that is found, if its element stands ahead of it and there is none like it.
func (t *Table) enterDerived(id int) bool {
	row := t.rows[id]
	s := shape{kind: row.Kind, elem: row.Elem, length: row.Len}
	_, twice := t.found[s]
	t.found[s] = id
	return !twice && 0 <= row.Elem && row.Elem < id
}

// head is a row without its members, so that it can be compared whole.
type head struct {
	kind   api.TypeKind
	elem   int
	length int
	tag    string
	done   bool
}

// hasMore tells whether a row has something that its kind does not have.
func hasMore(row api.TypeRow) bool {
	own := head{kind: row.Kind}
	switch row.Kind {
	case api.TEnum:
		own.tag = row.Tag
	case api.TPtr:
		own.elem = row.Elem
	case api.TArray:
		own.elem, own.length = row.Elem, row.Len
	case api.TStruct, api.TUnion:
		own.tag, own.done = row.Tag, row.Done
	}
	all := head{kind: row.Kind, elem: row.Elem, length: row.Len, tag: row.Tag, done: row.Done}
	return all != own || len(row.Members) > 0 && !own.done
}

// How far the search for circles has come with a type.
const (
	unseen = iota
	within // a way from it is being followed
	left   // no way from it leads back
)

// circular tells whether a type has itself within it.
func (t *Table) circular() bool {
	state := make([]int, len(t.rows))
	var back func(id int) bool
	back = func(id int) bool {
		if state[id] != unseen {
			return state[id] == within
		}
		state[id] = within
		for _, part := range t.parts(id) {
			if back(part) {
				return true
			}
		}
		state[id] = left
		return false
	}
	for id := range t.rows {
		if back(id) {
			return true
		}
	}
	return false
}

// parts are the types that lie within a type, one step down.
func (t *Table) parts(id int) []int {
	row := t.rows[id]
	if row.Kind == api.TArray {
		return []int{row.Elem}
	}
	var l []int
	for _, m := range row.Members {
		l = append(l, m.Type)
	}
	return l
}

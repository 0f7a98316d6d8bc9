package ctype

import "mortise/api"

// Basic answers a basic type.
func (t *Table) Basic(k api.TypeKind) (int, api.Errno) {
	if !t.made() {
		return 0, api.ErrNil
	}
	if k < api.TVoid || k > api.TULong {
		return 0, api.ErrType
	}
	return int(k - api.TVoid), api.OK
}

// Enum makes an enumeration.
func (t *Table) Enum(tag string) (int, api.Errno) { return t.tagged(api.TEnum, tag) }

// Struct makes a struct without members.
func (t *Table) Struct(tag string) (int, api.Errno) { return t.tagged(api.TStruct, tag) }

// Union makes a union without members.
func (t *Table) Union(tag string) (int, api.Errno) { return t.tagged(api.TUnion, tag) }

// tagged makes a type that is another one than all that have its tag already.
func (t *Table) tagged(k api.TypeKind, tag string) (int, api.Errno) {
	if !t.made() {
		return 0, api.ErrNil
	}
	if !Tag(tag) {
		return 0, api.ErrTag
	}
	return t.add(api.TypeRow{Kind: k, Tag: tag})
}

// Ptr answers a pointer.
func (t *Table) Ptr(elem int) (int, api.Errno) {
	if !t.made() {
		return 0, api.ErrNil
	}
	if !t.has(elem) {
		return 0, api.ErrType
	}
	return t.derived(shape{kind: api.TPtr, elem: elem})
}

// Array answers an array.
func (t *Table) Array(elem int, n int) (int, api.Errno) {
	switch {
	case !t.made():
		return 0, api.ErrNil
	case !t.has(elem):
		return 0, api.ErrType
	case !t.Whole(elem):
		return 0, api.ErrIncomplete
	case !isLength(n):
		return 0, api.ErrArg
	}
	return t.derived(shape{kind: api.TArray, elem: elem, length: n})
}

// isLength tells whether an array may have that Len.
func isLength(n int) bool { return n == untold || 1 <= n && n <= api.MaxSize }

// derived answers the pointer or the array of a shape, which stands once: a new row only if there is none.
func (t *Table) derived(s shape) (int, api.Errno) {
	if id, ok := t.found[s]; ok {
		return id, api.OK
	}
	id, err := t.add(api.TypeRow{Kind: s.kind, Elem: s.elem, Len: s.length})
	if err == api.OK {
		t.found[s] = id
	}
	return id, err
}

// add puts a row behind the others.
func (t *Table) add(row api.TypeRow) (int, api.Errno) {
	id := len(t.rows)
	if id >= api.MaxTypes {
		return 0, api.ErrFull
	}
	t.rows = append(t.rows, row)
	return id, api.OK
}

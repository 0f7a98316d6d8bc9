package ctype

import (
	"strconv"

	"mortise/api"
)

// names has the basic types' names, in the order of their kinds.
var names = [...]string{
	"void", "_Bool", "char", "signed char", "unsigned char", "short", "unsigned short",
	"int", "unsigned int", "long", "unsigned long",
}

// Declare writes a declaration.
func (t *Table) Declare(id int, name string) (string, api.Errno) {
	switch {
	case !t.made():
		return "", api.ErrNil
	case !t.has(id):
		return "", api.ErrType
	case name != "" && !Tag(name):
		return "", api.ErrTag
	}
	row, declarator := t.rows[id], name
	for row.Kind == api.TPtr || row.Kind == api.TArray {
		elem := t.rows[row.Elem]
		declarator = around(declarator, row, elem.Kind)
		row = elem
	}
	if declarator == "" {
		return base(row), api.OK
	}
	return base(row) + " " + declarator, api.OK
}

// around writes what a pointer or an array puts round a declarator: `[n]` binds it more tightly than `*`, so a pointer to an array has parentheses.
func around(declarator string, row api.TypeRow, elem api.TypeKind) string {
	switch {
	case row.Kind == api.TArray && row.Len == untold:
		return declarator + "[]"
	case row.Kind == api.TArray:
		return declarator + "[" + strconv.Itoa(row.Len) + "]"
	case elem == api.TArray:
		return "(*" + declarator + ")"
	}
	return "*" + declarator
}

// base is the name of a type that is no pointer and no array.
func base(row api.TypeRow) string {
	switch row.Kind {
	case api.TEnum:
		return "enum " + row.Tag
	case api.TStruct:
		return "struct " + row.Tag
	case api.TUnion:
		return "union " + row.Tag
	}
	return names[row.Kind-api.TVoid]
}

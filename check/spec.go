package check

import (
	"slices"
	"strconv"

	"mortise/api"
	"mortise/word"
)

// The Nums of a TrTag.
const (
	structs = 1
	unions  = 2
	enums   = 3
)

// Bounds of a bit-field's bits, which layer 3 narrows down by its type, and what stands for them where there are none.
const (
	mostBits = 32
	noBits   = -1
)

// specifier is the type of a specifier with which something is declared, or nothing: struct S ; has the tag in the innermost scope.
func (c *checker) specifier(x api.Tree, declares bool) int {
	switch x.Kind {
	case api.TrBase:
		return baseType(x.Text)
	case api.TrAlias:
		s := c.named(x.Text, x.At)
		want(s.as == aTypedef, api.ErrName, x.At)
		return s.id
	}
	if len(x.Sub) > 0 {
		return c.define(x)
	}
	return c.mention(x, declares)
}

// baseType is the type that a TrBase's words name.
func baseType(words string) int {
	return slices.Index([]string{"void", "_Bool", "char", "signed char", "unsigned char", "short", "unsigned short", "int", "unsigned int", "long", "unsigned long"}, words)
}

// mention is the type of a tag without a body.
func (c *checker) mention(x api.Tree, declares bool) int {
	found, ok := c.tagged(x.Text)
	if !declares && x.Num != enums {
		found, ok = c.scope.tags[x.Text]
	}
	if !ok {
		want(x.Num != enums, api.ErrName, x.At)
		return c.newTag(x)
	}
	want(found.num == x.Num, api.ErrTwice, x.At)
	return found.id
}

// define is the type of a tag with a body, which is gone through.
func (c *checker) define(x api.Tree) int {
	found, ok := c.scope.tags[x.Text]
	if ok {
		want(found.num == x.Num && x.Num != enums && !c.row(found.id).Done, api.ErrTwice, x.At)
	} else {
		found.id = c.newTag(x)
	}
	if x.Num == enums {
		c.enumerators(x.Sub[0])
	} else {
		refuse(c.types.Complete(found.id, c.members(x.Sub[0])), x.At)
	}
	return found.id
}

// newTag makes the type of a tag, and gives it to the innermost scope. No text has the tag of what has no name, so that is found by none.
func (c *checker) newTag(x api.Tree) int {
	name := x.Text
	if name == "" {
		c.nameless++
		name = "#" + strconv.Itoa(c.nameless)
	}
	id, code := c.tagMaker(x.Num)(name)
	refuse(code, x.At)
	c.scope.tags[name] = tag{num: x.Num, id: id}
	return id
}

// tagMaker is what makes types of a TrTag's Num.
func (c *checker) tagMaker(num int) func(tag string) (int, api.Errno) {
	switch num {
	case structs:
		return c.types.Struct
	case unions:
		return c.types.Union
	}
	return c.types.Enum
}

// members are the members of a body.
func (c *checker) members(body api.Tree) []api.Member {
	var l []api.Member
	for _, fields := range body.Sub {
		base := c.specifier(fields.Sub[0], true)
		for _, x := range fields.Sub[1:] {
			m := c.field(x, base)
			want(len(l) < api.MaxMembers, api.ErrTooLarge, x.At)
			l = append(l, m)
		}
	}
	return l
}

// field is a member whose specifier says base.
func (c *checker) field(x api.Tree, base int) api.Member {
	m := api.Member{Name: x.Text, Type: c.declarator(x.Sub[0], base, x.At), Bits: noBits}
	if len(x.Sub) > 1 {
		m.Bits = c.constant(x.Sub[1])
		want(0 <= m.Bits && m.Bits <= mostBits, api.ErrBits, x.At)
	}
	return m
}

// enumerators declares the names of an enum's body. Each is declared behind its value, which may have the name for something else.
func (c *checker) enumerators(body api.Tree) {
	value := 0
	for _, x := range body.Sub {
		if len(x.Sub) > 0 {
			value = c.constant(x.Sub[0])
		}
		want(word.Fits(api.TInt, value), api.ErrConst, x.At)
		c.declare(x.Text, &symbol{as: aConstant, id: intType, num: value}, x.At)
		value++
	}
}

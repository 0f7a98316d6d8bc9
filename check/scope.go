package check

import (
	"slices"

	"mortise/api"
)

// standing is what a name stands for.
type standing int

const (
	aLocal standing = iota
	aGlobal
	aConstant
	aTypedef
	aFunction
)

// symbol is what a name has: its type (of a constant int, of a function nothing), and its number among the locals or globals, or the constant's value.
type symbol struct {
	as       standing
	id       int
	num      int
	function *function
}

// tag is what a tag has: the Num of its TrTag, and its type.
type tag struct {
	num int
	id  int
}

// scope has what is declared in it; round it is its outer scope.
type scope struct {
	names map[string]*symbol
	tags  map[string]tag
	outer *scope
}

// open begins a scope within the innermost one.
func (c *checker) open() {
	c.scope = &scope{names: map[string]*symbol{}, tags: map[string]tag{}, outer: c.scope}
}

// close ends the innermost scope, and answers it.
func (c *checker) close() *scope {
	inner := c.scope
	c.scope = inner.outer
	return inner
}

// declare gives a name to the innermost scope, which must not have it.
func (c *checker) declare(name string, s *symbol, at api.Spot) {
	_, twice := c.scope.names[name]
	want(!twice, api.ErrTwice, at)
	c.scope.names[name] = s
}

// named is what the innermost scope that has a name has for it.
func (c *checker) named(name string, at api.Spot) *symbol {
	for s := c.scope; s != nil; s = s.outer {
		if found, ok := s.names[name]; ok {
			return found
		}
	}
	refuse(api.ErrName, at)
	return nil
}

// tagged is what the innermost scope that has a tag has for it.
func (c *checker) tagged(name string) (tag, bool) {
	for s := c.scope; s != nil; s = s.outer {
		if found, ok := s.tags[name]; ok {
			return found, true
		}
	}
	return tag{}, false
}

// typedefs are the names of types that a scope itself has.
func (s *scope) typedefs() []string {
	var l []string
	for name, found := range s.names {
		if found.as == aTypedef {
			l = append(l, name)
		}
	}
	slices.Sort(l)
	return l
}

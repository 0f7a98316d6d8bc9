package ctype

import (
	"math/rand"
	"regexp"
	"strconv"
	"strings"
	"testing"

	"mortise/api"
)

// wantDeclare asks how a type is declared with a name.
func wantDeclare(t *testing.T, c *Table, k int, name string, want string) {
	t.Helper()
	if s, err := c.Declare(k, name); s != want || err != api.OK {
		t.Errorf("Declare(%d, %q) = %q, %d, want %q", k, name, s, err, want)
	}
}

func TestP3_6Bases(t *testing.T) {
	c, n := sample(t)
	words := []string{"void", "_Bool", "char", "signed char", "unsigned char", "short", "unsigned short", "int", "unsigned int", "long", "unsigned long"}
	for k, want := range words {
		wantDeclare(t, c, k, "", want)
		wantDeclare(t, c, k, "x", want+" x")
		wantDeclare(t, c, id(t)(c.Ptr(k)), "x", want+" *x")
		wantDeclare(t, c, id(t)(c.Ptr(k)), "", want+" *")
	}
	for _, base := range []string{"struct S", "union U", "struct open", "union #3", "enum E"} {
		wantDeclare(t, c, n[base], "", base)
		wantDeclare(t, c, n[base], "#12", base+" #12")
		wantDeclare(t, c, id(t)(c.Ptr(n[base])), "p_1", base+" *p_1")
	}
}

func TestP3_6Sample(t *testing.T) {
	c, n := sample(t)
	for s, k := range n {
		wantDeclare(t, c, k, "", s)
	}
}

func TestP3_6Declarators(t *testing.T) {
	c := New()
	p := id(t)(c.Ptr(idInt))
	pp := id(t)(c.Ptr(p))
	ppp := id(t)(c.Ptr(pp))
	a := id(t)(c.Array(idInt, 2))
	aa := id(t)(c.Array(a, 16384))
	open := id(t)(c.Array(a, -1))
	ap := id(t)(c.Array(p, 3))
	pa := id(t)(c.Ptr(a))
	ppa := id(t)(c.Ptr(pa))
	pap := id(t)(c.Ptr(ap))
	apa := id(t)(c.Array(pa, 5))
	papa := id(t)(c.Ptr(apa))
	appa := id(t)(c.Array(ppa, -1))
	paa := id(t)(c.Ptr(aa))
	popen := id(t)(c.Ptr(open))
	for k, want := range map[int]string{
		p: "int *?", pp: "int **?", ppp: "int ***?", a: "int ?[2]", aa: "int ?[16384][2]", open: "int ?[][2]", ap: "int *?[3]", pa: "int (*?)[2]", ppa: "int (**?)[2]",
		pap: "int *(*?)[3]", apa: "int (*?[5])[2]", papa: "int (*(*?)[5])[2]", appa: "int (**?[])[2]", paa: "int (*?)[16384][2]", popen: "int (*?)[][2]",
	} {
		for _, name := range []string{"", "a", "x_9", "#1", "int", strings.Repeat("n", 63)} {
			wantDeclare(t, c, k, name, strings.Replace(want, "?", name, 1))
		}
	}
}

func TestP3_6Refused(t *testing.T) {
	c, _ := sample(t)
	same := unchanged(t, c)
	for _, k := range noTypes(c.Len()) {
		for _, name := range []string{"", "x", "1", " "} {
			if s, err := c.Declare(k, name); s != "" || err != api.ErrType {
				t.Errorf("Declare(%d, %q) = %q, %d", k, name, s, err)
			}
		}
	}
	for k := range c.Len() {
		for _, name := range badTags() {
			if s, err := c.Declare(k, name); name != "" && (s != "" || err != api.ErrTag) {
				t.Errorf("Declare(%d, %q) = %q, %d", k, name, s, err)
			}
		}
		for _, name := range goodTags() {
			if s, err := c.Declare(k, name); !strings.Contains(s, name) || err != api.OK {
				t.Errorf("Declare(%d, %q) = %q, %d", k, name, s, err)
			}
		}
	}
	same("Declare")
}

func TestP3_6Longest(t *testing.T) {
	c := New()
	last := idULong
	want := "unsigned long "
	for range api.MaxTypes - firstFree {
		last = id(t)(c.Ptr(last))
		want += "*"
	}
	wantDeclare(t, c, last, "x", want+"x")
	c, last, want = New(), idChar, ""
	for range api.MaxTypes - firstFree {
		last = id(t)(c.Array(last, 16384))
		want += "[16384]"
	}
	wantDeclare(t, c, last, "", "char "+want)
}

// reader reads a declarator as C does: what binds more tightly is nearer to the name.
type reader struct {
	tokens []string
	c      *Table
}

// next takes a token, if it is this one.
func (r *reader) next(want string) bool {
	if len(r.tokens) == 0 || r.tokens[0] != want {
		return false
	}
	r.tokens = r.tokens[1:]
	return true
}

// declarator answers the type of the thing, of a base's number.
func (r *reader) declarator(t *testing.T, name string, base int) int {
	for r.next("*") {
		base = id(t)(r.c.Ptr(base))
	}
	inner := r.tokens
	if r.next("(") {
		for depth := 1; depth > 0; r.tokens = r.tokens[1:] {
			depth += strings.Count(r.tokens[0], "(") - strings.Count(r.tokens[0], ")")
		}
		inner = inner[1 : len(inner)-len(r.tokens)-1]
	} else {
		inner = nil
		if name != "" && !r.next(name) {
			t.Fatalf("the name is not there: %q", r.tokens)
		}
	}
	var lengths []int
	for r.next("[") {
		n := -1
		if !r.next("]") {
			n, _ = strconv.Atoi(r.tokens[0])
			r.tokens = r.tokens[2:]
		}
		lengths = append(lengths, n)
	}
	for i := len(lengths) - 1; i >= 0; i-- {
		base = id(t)(r.c.Array(base, lengths[i]))
	}
	if len(r.tokens) != 0 {
		t.Fatalf("left over: %q", r.tokens)
	}
	if inner == nil {
		return base
	}
	return (&reader{inner, r.c}).declarator(t, name, base)
}

// TestP3_6ReadBack reads declarations of types that were made at random, and asks for the same numbers.
func TestP3_6ReadBack(t *testing.T) {
	r := rand.New(rand.NewSource(3))
	pieces := regexp.MustCompile(`[A-Za-z_0-9]+|[][()*]`)
	for range 2000 {
		c := New()
		k := idInt
		for range r.Intn(12) {
			k = id(t)(c.Ptr(k))
			if r.Intn(2) == 0 {
				k = id(t)(c.Array(k, 1+r.Intn(4)))
			}
		}
		if r.Intn(2) == 0 && c.Whole(k) {
			k = id(t)(c.Array(k, -1))
		}
		name := []string{"", "x"}[r.Intn(2)]
		s, err := c.Declare(k, name)
		if err != api.OK || !strings.HasPrefix(s, "int") || strings.Contains(s, "  ") || strings.HasSuffix(s, " ") {
			t.Fatalf("%q, %d", s, err)
		}
		same := unchanged(t, c)
		tokens := pieces.FindAllString(strings.TrimPrefix(s, "int"), -1)
		if got := (&reader{tokens, c}).declarator(t, name, idInt); got != k {
			t.Fatalf("%q is type %d, want %d of %v", s, got, k, c.Rows())
		}
		same("reading " + s)
	}
}

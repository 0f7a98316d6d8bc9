package parse

import (
	"slices"
	"strings"
	"testing"

	"mortise/api"
)

// grammar is the chapter's, all symbols parted by blanks; what the chapter says in words stands in angles, as marks: worlds that a mark does not let through end there.
const grammar = `
unit:       { declaration | function }
function:   SPECS declarator <declare> <function> block <close>
declaration: SPECS [ variable { ',' variable } ] ';'
variable:   declarator <declare> [ '=' initialiser ]
tag:        ( 'struct' | 'union' ) [ NAME ] '{' fields { fields } '}' | ( 'struct' | 'union' ) NAME | 'enum' [ NAME ] '{' one { ',' one } [ ',' ] '}' | 'enum' NAME
one:        NAME [ '=' conditional ] <plain>
fields:     SPECIFIERS field { ',' field } ';'
field:      declarator [ ':' conditional ] | ':' conditional
declarator: '*' declarator <star> | ( NAME | '(' declarator ')' ) { suffix }
suffix:     '[' [ conditional ] ']' <array> | '(' <open> [ params ] ')' <shut>
params:     'void' | param { ',' param }
param:      SPECIFIERS ( inparam <plain> | abstract )
inparam:    '*' inparam <star> | ( NAME | <inside> '(' inparam ')' ) { suffix }
abstract:   { '*' } [ <inside> '(' abstract ')' ] { suffix }
type:       SPECIFIERS abstract
initialiser: assignment | list
list:       '{' item { ',' item } [ ',' ] '}'
item:       [ place { place } '=' ] initialiser
place:      '[' conditional ']' | '.' NAME
block:      '{' <open> { declaration | statement } '}' <close>
statement:  block | ';' | expression ';' | 'if' '(' expression ')' statement [ 'else' statement ] | 'while' '(' expression ')' statement | 'do' statement 'while' '(' expression ')' ';' | 'for' <open> '(' ( declaration | [ expression ] ';' ) [ expression ] ';' [ expression ] ')' statement <close> | 'break' ';' | 'continue' ';' | 'return' [ expression ] ';'
expression: assignment { ',' assignment }
assignment: unary ( '=' | '*=' | '/=' | '%=' | '+=' | '-=' | '<<=' | '>>=' | '&=' | '^=' | '|=' ) assignment | conditional
conditional: binary [ '?' expression ':' conditional ]
binary:     cast { ( '||' | '&&' | '|' | '^' | '&' | '==' | '!=' | '<' | '>' | '<=' | '>=' | '<<' | '>>' | '+' | '-' | '*' | '/' | '%' ) cast }
cast:       '(' type ')' cast | unary
unary:      ( '++' | '--' ) unary | ( '+' | '-' | '~' | '!' | '*' | '&' ) cast | 'sizeof' unary | 'sizeof' '(' type ')' | postfix
postfix:    ( primary | '(' type ')' list ) { '[' expression ']' | '.' NAME | '->' NAME | '++' | '--' }
primary:    PLAIN | ( PLAIN | '(' PLAIN ')' ) '(' [ assignment { ',' assignment } ] ')' | INT | CHAR | STRING { STRING } | '(' expression ')' | 'offsetof' '(' type ',' NAME { place } ')'
`

// world is how far a way through the grammar has come, and what it knows there: its scopes (parted by |; in each, names with + behind an ALIAS, - behind a PLAIN), and, of the declaration and the declarator within which it is, whether that is a typedef's, the name, what is nearest to the name (a star p, brackets a, params f, nothing yet 0), and the scope of params that are.
type world struct {
	pos     int
	scopes  string
	typedef bool
	name    string
	nearest byte
	own     string
}

// way answers the worlds that one may go on to.
type way func(w world) []world

// tracer follows all ways through the grammar at once, as the text stands, and knows the furthest token that did not fit.
type tracer struct {
	tokens   []api.Token
	rules    map[string]way
	known    map[ruleAt][]world
	furthest int
}

// ruleAt is a rule that is begun in a world.
type ruleAt struct {
	rule string
	w    world
}

// newTracer reads the grammar.
func newTracer(tokens []api.Token) *tracer {
	t := &tracer{tokens: tokens, rules: map[string]way{}, known: map[ruleAt][]world{}}
	for _, line := range strings.Split(strings.TrimSpace(grammar), "\n") {
		name, rest, _ := strings.Cut(line, ":")
		symbols := append(strings.Fields(rest), "")
		t.rules[name] = t.choice(&symbols)
	}
	t.rules["SPECS"] = func(w world) []world { return t.specs(w, "", true) }
	t.rules["SPECIFIERS"] = func(w world) []world { return t.specs(w, "", false) }
	return t
}

// choice reads alternatives, up to what closes them.
func (t *tracer) choice(symbols *[]string) way {
	all := []way{t.row(symbols)}
	for (*symbols)[0] == "|" {
		*symbols = (*symbols)[1:]
		all = append(all, t.row(symbols))
	}
	return func(w world) []world {
		var out []world
		for _, a := range all {
			out = append(out, a(w)...)
		}
		return set(out)
	}
}

// row reads symbols that stand behind each other.
func (t *tracer) row(symbols *[]string) way {
	var all []way
	for !slices.Contains([]string{"|", ")", "]", "}", ""}, (*symbols)[0]) {
		all = append(all, t.symbol(symbols))
	}
	return func(w world) []world {
		now := []world{w}
		for _, a := range all {
			now = each(now, a)
		}
		return now
	}
}

// symbol reads one symbol, or what stands in brackets of the grammar's own.
func (t *tracer) symbol(symbols *[]string) way {
	s := (*symbols)[0]
	*symbols = (*symbols)[1:]
	switch s {
	case "(", "[", "{":
		inner := t.choice(symbols)
		*symbols = (*symbols)[1:]
		return map[string]way{"(": inner, "[": orNothing(inner), "{": often(inner)}[s]
	}
	switch {
	case s[0] == '\'':
		return t.terminal(func(w world, x api.Token) bool { return spelt(x) == strings.Trim(s, "'") })
	case s[0] == '<':
		return func(w world) []world { return t.mark(s, w) }
	}
	kinds := map[string]api.TokenKind{"NAME": api.TokName, "PLAIN": api.TokName, "INT": api.TokInt, "CHAR": api.TokChar, "STRING": api.TokStr}
	if kind, ok := kinds[s]; ok {
		return t.terminal(func(w world, x api.Token) bool {
			return x.Kind == kind && (s != "PLAIN" || !standsForType(w.scopes, x.Text))
		})
	}
	return func(w world) []world { return t.rule(s, w) }
}

// spelt is the text of a keyword or a sign.
func spelt(x api.Token) string {
	if x.Kind == api.TokWord || x.Kind == api.TokPunct {
		return x.Text
	}
	return "none"
}

// set is a list of worlds without those that stand twice.
func set(l []world) []world {
	seen := map[world]bool{}
	return slices.DeleteFunc(l, func(w world) bool {
		twice := seen[w]
		seen[w] = true
		return twice
	})
}

// each goes on from all worlds of a list.
func each(l []world, a way) []world {
	var out []world
	for _, w := range l {
		out = append(out, a(w)...)
	}
	return set(out)
}

// orNothing is a way that may be left out.
func orNothing(a way) way {
	return func(w world) []world { return set(append(a(w), w)) }
}

// often is a way that may be gone any many times.
func often(a way) way {
	return func(w world) []world {
		all, last := []world{w}, []world{w}
		for len(last) > 0 {
			last = each(last, a)
			all = append(all, last...)
		}
		return set(all)
	}
}

// terminal goes over one token.
func (t *tracer) terminal(fits func(w world, x api.Token) bool) way {
	return func(w world) []world {
		x := t.tokens[w.pos]
		if !fits(w, x) {
			t.furthest = max(t.furthest, w.pos)
			return nil
		}
		if x.Kind == api.TokName {
			w.name, w.nearest, w.own = x.Text, 0, ""
		}
		w.pos++
		return []world{w}
	}
}

// rule goes a rule's ways. What it knows of declarators is forgotten behind it, but where the rule is one itself.
func (t *tracer) rule(name string, w world) []world {
	key := ruleAt{name, w}
	if out, ok := t.known[key]; ok {
		return out
	}
	out := slices.Clone(t.rules[name](w))
	for i := range out {
		if name != "SPECS" {
			out[i].typedef = w.typedef
		}
		if !slices.Contains([]string{"declarator", "inparam", "suffix"}, name) {
			out[i].name, out[i].nearest, out[i].own = w.name, w.nearest, w.own
		}
	}
	t.known[key] = set(out)
	return t.known[key]
}

// mark does what a mark says.
func (t *tracer) mark(m string, w world) []world {
	last := strings.LastIndex(w.scopes, "|")
	switch m {
	case "<open>":
		w.scopes += "|"
	case "<close>":
		w.scopes = w.scopes[:last]
	case "<shut>":
		if w.nearest == 0 {
			w.nearest, w.own = 'f', w.scopes[last:]
		}
		w.scopes = w.scopes[:last]
	case "<array>", "<star>":
		if w.nearest == 0 {
			w.nearest = m[1]
		}
	case "<plain>":
		w.scopes += w.name + "-"
	case "<declare>":
		w.scopes += w.name + map[bool]string{true: "+", false: "-"}[w.typedef]
	case "<function>":
		if w.nearest != 'f' || w.typedef {
			return nil
		}
		w.scopes += w.own
	case "<inside>":
		if behind := t.tokens[min(w.pos+1, len(t.tokens)-1)]; spelt(behind) == ")" || t.isSpecifier(w, behind) {
			return nil
		}
	}
	return []world{w}
}

// standsForType tells what a name stands for: what was said last in the innermost scope that says something.
func standsForType(scopes string, name string) bool {
	l := strings.Split(scopes, "|")
	for _, s := range slices.Backward(l) {
		said := ""
		for s != "" {
			i := strings.IndexAny(s, "+-")
			if s[:i] == name {
				said = s[i : i+1]
			}
			s = s[i+1:]
		}
		if said != "" {
			return said == "+"
		}
	}
	return false
}

// basicTypes are the words of each basic type, in the order of the alphabet, and what layer 4 calls it.
func basicTypes() map[string]string {
	all := map[string]string{"void": "void", "_Bool": "_Bool", "char": "char", "char signed": "signed char", "char unsigned": "unsigned char"}
	for _, size := range []string{"", "short", "long"} {
		for _, sign := range []string{"", "signed", "unsigned"} {
			for _, kind := range []string{"", "int"} {
				words := strings.Fields(size + " " + sign + " " + kind)
				slices.Sort(words)
				means := strings.TrimPrefix(sign, "signed") + " " + size
				if size == "" {
					means += "int"
				}
				all[strings.Join(words, " ")] = strings.TrimSpace(means)
			}
		}
	}
	delete(all, "")
	return all
}

// allBasic is what basicTypes answers.
var allBasic = basicTypes()

// isSpecifier tells whether specifiers begin with a token.
func (t *tracer) isSpecifier(w world, x api.Token) bool {
	_, basic := allBasic[spelt(x)]
	return basic || slices.Contains([]string{"struct", "union", "enum"}, spelt(x)) || x.Kind == api.TokName && standsForType(w.scopes, x.Text)
}

// specs goes over specifiers, words being those that were read, "alone" a tag or an ALIAS.
func (t *tracer) specs(w world, words string, store bool) []world {
	x := t.tokens[w.pos]
	next := w
	next.pos++
	together := strings.Fields(words + " " + spelt(x))
	slices.Sort(together)
	added := strings.Join(together, " ")
	switch _, basic := allBasic[added]; {
	case store && (spelt(x) == "typedef" || spelt(x) == "static"):
		next.typedef = spelt(x) == "typedef"
		return t.specs(next, words, false)
	case basic:
		return t.specs(next, added, store)
	case words == "" && x.Kind == api.TokName && standsForType(w.scopes, x.Text):
		return t.specs(next, "alone", store)
	case words == "" && t.isSpecifier(w, x):
		return each(t.rule("tag", w), func(w world) []world { return t.specs(w, "alone", store) })
	}
	if words == "" {
		t.furthest = max(t.furthest, w.pos)
		return nil
	}
	return []world{w}
}

// trace tells the first token with which nothing goes on, or -1: all of the tokens are what the rule says, and the end.
func trace(tokens []api.Token, rule string, aliases []string) int {
	t := newTracer(tokens)
	scopes := ""
	for _, a := range aliases {
		scopes += a + "+"
	}
	for _, w := range t.rule(rule, world{scopes: scopes}) {
		if tokens[w.pos].Kind == api.TokEnd {
			return -1
		}
		t.furthest = max(t.furthest, w.pos)
	}
	return t.furthest
}

// TestP6_2Tracer asks the tracer itself for the chapter's examples.
func TestP6_2Tracer(t *testing.T) {
	for _, c := range []struct {
		rule, text string
		want       int
	}{
		{"unit", "typedef int T ; T * x ;", -1}, {"unit", "int T ; int f ( void ) { T * x ; }", -1}, {"unit", "typedef int T ; int f ( int T ) { return T * 2 ; }", -1},
		{"expression", "a + b = c", 3}, {"expression", "1 ( 2 )", 1}, {"unit", "int unsigned char", 2}, {"unit", "int x {", 2}, {"unit", "int f ( int ) , g ( void ) { }", 10}, {"unit", "struct S { } ;", 3},
		{"type", "int ( * ) [ 3 ]", -1}, {"expression", "sizeof ( int ) { 1 }", -1}, {"expression", "( x ) - 1", -1}, {"unit", "", -1}, {"type", "", 0},
	} {
		if got := trace(scanned(t, c.text), c.rule, nil); got != c.want {
			t.Errorf("%q: %d, want %d", c.text, got, c.want)
		}
	}
}

package tree

import (
	"math/rand"
	"regexp"
	"slices"
	"strings"
	"testing"

	"mortise/api"
)

// rule is a row of the chapter's table. Texts and Nums are those that the kind may have (texts: nil is just "", "NAME" any name, "ANY" any bytes); sub is a pattern of kinds, each with * + ? behind it or nothing.
type rule struct {
	kind  string
	texts []string
	nums  []int
	sub   string
}

// bases are the words of TrBase, and the signs of the three kinds with signs.
var (
	bases    = []string{"void", "_Bool", "char", "signed char", "unsigned char", "short", "unsigned short", "int", "unsigned int", "long", "unsigned long"}
	unSigns  = []string{"+", "-", "~", "!", "*", "&", "++", "--"}
	biSigns  = []string{"*", "/", "%", "+", "-", "<<", ">>", "<", ">", "<=", ">=", "==", "!=", "&", "^", "|", "&&", "||", ","}
	setSigns = []string{"=", "*=", "/=", "%=", "+=", "-=", "<<=", ">>=", "&=", "^=", "|="}
	aName    = []string{"NAME"}
	orName   = []string{"NAME", ""}
)

// rules is the chapter's table. Alternatives stand with / between, the least one first.
var rules = []rule{
	{"TrList", nil, nil, "TrItem+"},
	{"TrItem", nil, nil, "TrAt/TrDot* I"},
	{"TrAt", nil, nil, "E"},
	{"TrDot", aName, nil, ""},
	{"TrName", aName, nil, ""},
	{"TrInt", []string{"int", "long", "unsigned int", "unsigned long"}, []int{0, 1, 2147483647}, ""},
	{"TrChr", nil, []int{-128, -1, 0, 10, 39, 97, 127}, ""},
	{"TrStr", []string{"ANY"}, nil, ""},
	{"TrUn", unSigns, nil, "E"},
	{"TrPost", []string{"++", "--"}, nil, "E"},
	{"TrBi", biSigns, nil, "E E"},
	{"TrSet", setSigns, nil, "E E"},
	{"TrCond", nil, nil, "E E E"},
	{"TrCall", aName, nil, "E*"},
	{"TrIndex", nil, nil, "E E"},
	{"TrMember", aName, nil, "E"},
	{"TrArrow", aName, nil, "E"},
	{"TrCast", nil, nil, "T E"},
	{"TrSizeE", nil, nil, "E"},
	{"TrSizeT", nil, nil, "T"},
	{"TrOffset", nil, nil, "T TrDot TrAt/TrDot*"},
	{"TrLit", nil, nil, "T TrList"},
	{"TrBase", bases, nil, ""},
	{"TrTag", orName, []int{1, 2, 3}, "TrBody?"},
	{"TrBody", nil, nil, "TrFields/TrEnum+"},
	{"TrAlias", aName, nil, ""},
	{"TrPtr", nil, nil, "D"},
	{"TrArray", nil, nil, "D E?"},
	{"TrFn", nil, nil, "D TrParam*"},
	{"TrHole", nil, nil, ""},
	{"TrParam", orName, nil, "S D"},
	{"TrType", nil, nil, "S D"},
	{"TrDecl", nil, []int{0, 1, 2}, "S TrVar*"},
	{"TrVar", aName, nil, "D I?"},
	{"TrFields", nil, nil, "S TrField+"},
	{"TrField", orName, nil, "D E?"},
	{"TrEnum", aName, nil, "E?"},
	{"TrFunc", aName, []int{0, 2}, "S TrFn TsBlock"},
	{"TrUnit", nil, nil, "TrDecl/TrFunc*"},
	{"TsBlock", nil, nil, "C/TrDecl*"},
	{"TsExpr", nil, nil, "E"},
	{"TsNone", nil, nil, ""},
	{"TsBreak", nil, nil, ""},
	{"TsContinue", nil, nil, ""},
	{"TsIf", nil, nil, "E C C?"},
	{"TsWhile", nil, nil, "E C"},
	{"TsDo", nil, nil, "C E"},
	{"TsFor", nil, nil, "TsNone/TsExpr/TrDecl TsNone/E TsNone/E C"},
	{"TsReturn", nil, nil, "E?"},
}

// letters are the table's letters.
var letters = map[string]string{
	"E": "TrName/TrInt/TrChr/TrStr/TrUn/TrPost/TrBi/TrSet/TrCond/TrCall/TrIndex/TrMember/TrArrow/TrCast/TrSizeE/TrSizeT/TrOffset/TrLit",
	"I": "E/TrList",
	"S": "TrBase/TrTag/TrAlias",
	"D": "TrHole/TrPtr/TrArray/TrFn",
	"T": "TrType",
	"C": "TsNone/TsBlock/TsExpr/TsIf/TsWhile/TsDo/TsFor/TsBreak/TsContinue/TsReturn",
}

// numbers are the kinds by name.
var numbers = map[string]api.TreeKind{
	"TrList": 1, "TrItem": 2, "TrAt": 3, "TrDot": 4, "TrStr": 5, "TrName": 10, "TrInt": 11, "TrChr": 12, "TrUn": 14, "TrPost": 15, "TrBi": 16, "TrSet": 17, "TrCond": 18, "TrCall": 19, "TrIndex": 20, "TrMember": 21, "TrArrow": 22, "TrCast": 23, "TrSizeE": 24, "TrSizeT": 25, "TrOffset": 26, "TrLit": 27,
	"TrBase": 30, "TrTag": 31, "TrBody": 32, "TrAlias": 33, "TrPtr": 34, "TrArray": 35, "TrFn": 36, "TrParam": 37, "TrHole": 38, "TrType": 39, "TrDecl": 40, "TrVar": 41, "TrFields": 42, "TrField": 43, "TrEnum": 44, "TrFunc": 45, "TrUnit": 46,
	"TsBlock": 50, "TsExpr": 51, "TsNone": 52, "TsIf": 53, "TsWhile": 54, "TsDo": 55, "TsFor": 56, "TsBreak": 57, "TsContinue": 58, "TsReturn": 59,
}

// place is one place of a rule: which kinds, and *, +, ? or nothing.
type place struct {
	kinds []string
	many  string
}

// places cuts a rule's pattern into its places.
func places(sub string) []place {
	var l []place
	for _, s := range strings.Fields(sub) {
		many := s[len(s)-1:]
		if !strings.Contains("*+?", many) {
			many = ""
		}
		l = append(l, place{spelt(strings.TrimSuffix(s, many)), many})
	}
	return l
}

// spelt are alternatives with all letters written out.
func spelt(s string) []string {
	var l []string
	for _, k := range strings.Split(s, "/") {
		if more, ok := letters[k]; ok {
			l = append(l, spelt(more)...)
		} else {
			l = append(l, k)
		}
	}
	return l
}

// teller knows the table's rows by kind, and their patterns of parts.
type teller struct {
	rows  map[api.TreeKind]rule
	parts map[api.TreeKind]*regexp.Regexp
	named map[api.TreeKind]string
}

// newTeller reads the table.
func newTeller() *teller {
	w := &teller{map[api.TreeKind]rule{}, map[api.TreeKind]*regexp.Regexp{}, map[api.TreeKind]string{}}
	for _, r := range rules {
		k := numbers[r.kind]
		pattern := "^"
		for _, p := range places(r.sub) {
			pattern += "(?:(?:" + strings.Join(p.kinds, "|") + ");)" + p.many
		}
		w.rows[k], w.parts[k], w.named[k] = r, regexp.MustCompile(pattern+"$"), r.kind
	}
	return w
}

// aNameOf tells whether a text is a name of layer 2.
var aNameOf = regexp.MustCompile(`^[a-zA-Z_][a-zA-Z_0-9]{0,62}$`)

const keywords = " _Bool break char continue do else enum for if int long offsetof return short signed sizeof static struct typedef union unsigned void while "

// isName is layer 2's Name, told once more.
func isName(s string) bool {
	return aNameOf.MatchString(s) && !strings.Contains(keywords, " "+s+" ")
}

// textOK tells whether a row has the text.
func textOK(r rule, s string) bool {
	if r.texts == nil {
		return s == ""
	}
	for _, may := range r.texts {
		if may == "ANY" || may == "NAME" && isName(s) || may == s && may != "NAME" {
			return true
		}
	}
	return false
}

// numOK tells whether a row has the number.
func numOK(r rule, x api.Tree) bool {
	switch r.kind {
	case "TrInt":
		most := map[string]int{"int": 1<<31 - 1, "long": 1<<31 - 1, "unsigned int": 1<<32 - 1, "unsigned long": 1<<32 - 1}
		return x.Num >= 0 && x.Num <= most[x.Text]
	case "TrChr":
		return x.Num == int(int8(x.Num))
	}
	return slices.Contains(r.nums, x.Num) || r.nums == nil && x.Num == 0
}

// opens tells whether a statement is open: whether the last if of its last branches has no else.
func opens(x api.Tree) bool {
	last := len(x.Sub) - 1
	switch {
	case x.Kind == api.TsIf && last == 1:
		return true
	case x.Kind == api.TsIf || x.Kind == api.TsWhile || x.Kind == api.TsFor:
		return opens(x.Sub[last])
	}
	return false
}

// besides is what the chapter asks for beneath the table.
func besides(x api.Tree) bool {
	switch x.Kind {
	case api.TrTag:
		for _, b := range x.Sub {
			for _, m := range b.Sub {
				if (m.Kind == api.TrEnum) != (x.Num == 3) {
					return false
				}
			}
		}
		return x.Text != "" || len(x.Sub) > 0
	case api.TrBody:
		return len(slices.CompactFunc(slices.Clone(x.Sub), func(a, b api.Tree) bool { return a.Kind == b.Kind })) == 1
	case api.TrField:
		return x.Text != "" || len(x.Sub) > 1
	case api.TsIf:
		return len(x.Sub) != 3 || !opens(x.Sub[1])
	}
	return true
}

// right tells whether a tree is right, of at most so many levels.
func (w *teller) right(x api.Tree, levels int) bool {
	r, ok := w.rows[x.Kind]
	if !ok || levels == 0 || x.Type != 0 || !textOK(r, x.Text) || !numOK(r, x) {
		return false
	}
	kinds := ""
	for _, s := range x.Sub {
		kinds += w.named[s.Kind] + ";"
		if !w.right(s, levels-1) {
			return false
		}
	}
	return w.parts[x.Kind].MatchString(kinds) && besides(x)
}

// grower makes right trees by chance.
type grower struct {
	*rand.Rand
	*teller
}

// pick is one of a list.
func pick[T any](g *grower, l []T) T { return l[g.Intn(len(l))] }

// text is a text of a row.
func (g *grower) text(r rule) string {
	if r.texts == nil {
		return ""
	}
	switch s := pick(g, r.texts); s {
	case "NAME":
		return pick(g, []string{"a", "b", "x9", "_", "main", strings.Repeat("n", api.MaxName)})
	case "ANY":
		b := make([]byte, g.Intn(5))
		g.Read(b)
		return string(b)
	default:
		return s
	}
}

// grow makes a right tree of a kind, with few levels beneath it.
func (g *grower) grow(k api.TreeKind, levels int) api.Tree {
	r := g.rows[k]
	x := api.Tree{Kind: k, Text: g.text(r), At: api.Spot{Line: g.Intn(3), Col: g.Intn(3), Off: g.Intn(3)}}
	if r.nums != nil {
		x.Num = pick(g, r.nums)
	}
	for _, p := range places(r.sub) {
		for range g.count(p.many, levels) {
			x.Sub = append(x.Sub, g.grow(g.kind(p, levels), levels-1))
		}
	}
	return g.mend(x, levels)
}

// kind is a kind for a place: the least one, where few levels are left.
func (g *grower) kind(p place, levels int) api.TreeKind {
	if levels <= 0 || g.Intn(5) == 0 {
		return numbers[p.kinds[0]]
	}
	return numbers[pick(g, p.kinds)]
}

// count is how many parts a place gets.
func (g *grower) count(many string, levels int) int {
	switch {
	case many == "":
		return 1
	case many == "+" && levels <= 0:
		return 1
	case levels <= 0:
		return 0
	case many == "?":
		return g.Intn(2)
	case many == "*":
		return g.Intn(4)
	}
	return 1 + g.Intn(3)
}

// mend does what the chapter asks for beneath the table.
func (g *grower) mend(x api.Tree, levels int) api.Tree {
	switch {
	case besides(x):
		return x
	case x.Kind == api.TsIf:
		x.Sub[1] = of(api.TsBlock, x.Sub[1])
	case x.Kind == api.TrBody:
		for i := range x.Sub {
			x.Sub[i] = g.grow(x.Sub[0].Kind, levels-1)
		}
	case x.Kind == api.TrTag && len(x.Sub) > 0:
		return g.grow(api.TrTag, levels)
	default:
		x.Text = "mended"
	}
	return x
}

// newGrower makes one whose chance begins at a number.
func newGrower(seed int64) *grower {
	return &grower{rand.New(rand.NewSource(seed)), newTeller()}
}

// any makes a right tree of any kind.
func (g *grower) any(levels int) api.Tree {
	return g.grow(numbers[pick(g, rules).kind], levels)
}

func TestP4_1Grown(t *testing.T) {
	g := newGrower(1)
	for range 3000 {
		x := g.any(g.Intn(7))
		if !g.right(x, api.MaxNest) {
			t.Fatalf("the tests' own tree is not right: %s", brief(x))
		}
		takes(t, x)
	}
}

// change turns something in a tree by chance, and answers the tree with its own lists.
func (g *grower) change(x api.Tree) api.Tree {
	x.Sub = slices.Clone(x.Sub)
	if len(x.Sub) > 0 && g.Intn(4) > 0 {
		i := g.Intn(len(x.Sub))
		x.Sub[i] = g.change(x.Sub[i])
		return x
	}
	switch g.Intn(8) {
	case 0:
		x.Kind = api.TreeKind(g.Intn(100) - 2)
	case 1:
		x.Kind = numbers[pick(g, rules).kind]
	case 2:
		x.Text = pick(g, []string{"", "a", "int", "unsigned int", "+", "++", ",", "=", "->", "?", "int ", "long long", "9", "enum", "a b", "\x00"})
	case 3:
		x.Num = pick(g, []int{-1 << 63, -129, -128, -1, 0, 1, 2, 3, 4, 127, 128, 1 << 31, 1 << 32, 1 << 40})
	case 4:
		x.Type = pick(g, []int{-1, 0, 1})
	case 5:
		i := g.Intn(len(x.Sub) + 1)
		x.Sub = slices.Insert(x.Sub, i, g.any(1))
	case 6:
		if n := len(x.Sub); n > 0 {
			i := g.Intn(n)
			x.Sub = slices.Delete(x.Sub, i, i+1)
		}
	case 7:
		if n := len(x.Sub); n > 0 {
			x.Sub[g.Intn(n)] = g.any(2)
		}
	}
	return x
}

// TestP4_1Changed holds Check against the table at trees that are right or nearly so.
func TestP4_1Changed(t *testing.T) {
	g := newGrower(2)
	counts := map[bool]int{}
	for range 60000 {
		x := g.change(g.any(g.Intn(5)))
		if g.Intn(3) == 0 {
			x = g.change(x)
		}
		ok := g.right(x, api.MaxNest)
		counts[ok]++
		if got := Check(x); (got == api.OK) != ok || got != api.OK && got != api.ErrTree {
			t.Fatalf("Check answers %d, the table %v: %s", got, ok, brief(x))
		}
	}
	if counts[true] < 5000 || counts[false] < 5000 {
		t.Errorf("the changed trees are too much alike: %v", counts)
	}
}

package token

import (
	"math"
	"slices"
	"strconv"
	"strings"
	"testing"

	"mortise/api"
)

const keywordList = "_Bool break char continue do else enum for if int long offsetof return short signed sizeof static struct typedef union unsigned void while"

const signList = "[ ] ( ) { } . -> ++ -- & * + - ~ ! / % << >> < > <= >= == != ^ | && || ? : ; = *= /= %= += -= <<= >>= &= ^= |= ,"

func keywords() []string { return strings.Fields(keywordList) }

func allSigns() []string { return strings.Fields(signList) }

// scanOK answers a text's tokens without the end, and fails if there is a fault, or no end at the text's end.
func scanOK(t *testing.T, s string) []api.Token {
	t.Helper()
	l, f := Scan(s)
	if f != (api.Fault{}) || len(l) == 0 {
		t.Fatalf("Scan(%.60q) = %v, %v", s, l, f)
	}
	if want := (api.Token{At: slowAt(s, len(s))}); l[len(l)-1] != want {
		t.Errorf("Scan(%.60q) ends with %v, want %v", s, l[len(l)-1], want)
	}
	return l[:len(l)-1]
}

// wantOne asks that a text is one token, which begins at its first byte.
func wantOne(t *testing.T, s string, want api.Token) {
	t.Helper()
	want.At = api.Spot{Line: 1, Col: 1}
	if l := scanOK(t, s); !slices.Equal(l, []api.Token{want}) {
		t.Errorf("Scan(%.60q) = %v, want %v", s, l, want)
	}
}

// wantFault asks that a text has this fault at the byte off, and no tokens.
func wantFault(t *testing.T, s string, code api.Errno, off int) {
	t.Helper()
	l, f := Scan(s)
	if want := (api.Fault{Code: code, At: slowAt(s, off)}); f != want || len(l) != 0 {
		t.Errorf("Scan(%.60q) = %d tokens, %v, want %v", s, len(l), f, want)
	}
}

// slowAt reckons P2.1 byte by byte.
func slowAt(s string, off int) api.Spot {
	spot := api.Spot{Line: 1, Col: 1}
	for i := 0; i < off && i < len(s); i++ {
		spot.Off++
		spot.Col++
		if s[i] == 10 {
			spot.Line++
			spot.Col = 1
		}
	}
	return spot
}

func TestP2_1At(t *testing.T) {
	for _, s := range []string{"", "a", "\n", "\n\n", "ab\ncd", "ab\n", "\nab\n\n\ncde\r\nf\x00\xff\n", "a\rb\vc\fd"} {
		for off := -3; off <= len(s)+3; off++ {
			if got, want := At(s, off), slowAt(s, off); got != want {
				t.Errorf("At(%q, %d) = %v, want %v", s, off, got, want)
			}
		}
		if got, want := At(s, math.MinInt), slowAt(s, 0); got != want {
			t.Errorf("At(%q, least) = %v, want %v", s, got, want)
		}
		if got, want := At(s, math.MaxInt), slowAt(s, len(s)); got != want {
			t.Errorf("At(%q, most) = %v, want %v", s, got, want)
		}
	}
	for off, want := range map[int]api.Spot{0: {Line: 1, Col: 1}, 1: {Line: 1, Col: 2, Off: 1}, 2: {Line: 2, Col: 1, Off: 2}, 4: {Line: 2, Col: 3, Off: 4}, 9: {Line: 2, Col: 3, Off: 4}} {
		if got := At("a\nbc", off); got != want {
			t.Errorf("At(%d) = %v, want %v", off, got, want)
		}
	}
}

func TestP2_1Long(t *testing.T) {
	s := strings.Repeat("ab\n", 50000) // no limit of a text holds here
	if got, want := At(s, 149999), (api.Spot{Line: 50000, Col: 3, Off: 149999}); got != want {
		t.Errorf("At = %v, want %v", got, want)
	}
}

func TestP2_2Spots(t *testing.T) {
	s := "int a;\n  // x\n/* y\n\n*/ 'b'\n\"c\" +\n"
	for _, x := range scanOK(t, s) {
		if x.At != slowAt(s, x.At.Off) {
			t.Errorf("%v", x)
		}
	}
	offs := []int{0, 4, 5, 23, 27, 31}
	for i, x := range scanOK(t, s) {
		if x.At.Off != offs[i] {
			t.Errorf("token %d at %d, want %d", i, x.At.Off, offs[i])
		}
	}
}

func TestP2_2Gaps(t *testing.T) {
	for _, s := range []string{"", " ", " \t\n\v\f\r", "//", "// x", "//\n", "///*\n", "/**/", "/***/", "/*/*/", "/* // */", "/* \n \" ' \\ \x00 \xff */", "//\xff\x00\"\n", "//\r@\v#\f'\n", "/**//**/ //"} {
		if l := scanOK(t, s); len(l) != 0 {
			t.Errorf("Scan(%q) = %v", s, l)
		}
	}
	for _, s := range []string{"// x\na", "/**/a", "/*/*/a", "\v\f\ra// b", "a/* b */", "a//", " /* */ // \n a /* */ // "} {
		if l := scanOK(t, s); len(l) != 1 || l[0].Text != "a" {
			t.Errorf("Scan(%q) = %v", s, l)
		}
	}
	for c := range 256 {
		l, f := Scan("a" + one(c) + "b")
		if blank := slices.Contains([]int{32, 9, 10, 11, 12, 13}, c); blank != (f == (api.Fault{}) && len(l) == 3) {
			t.Errorf("byte %d between names: %v, %v", c, l, f)
		}
	}
}

func TestP2_2Names(t *testing.T) {
	long := strings.Repeat("n", api.MaxName)
	for _, s := range []string{"a", "z", "A", "Z", "_", "__", "a0", "_9", "Int", "INT", "ints", "in", "_bool", "sizeofx", "main", "auto", "float", "goto", "x0u", long} {
		wantOne(t, s, api.Token{Kind: api.TokName, Text: s})
	}
	for _, s := range keywords() {
		wantOne(t, s, api.Token{Kind: api.TokWord, Text: s})
	}
	if l := scanOK(t, "int intx/**/int"); len(l) != 3 || l[0].Kind != api.TokWord || l[1].Kind != api.TokName || l[2].Kind != api.TokWord {
		t.Error(l)
	}
}

func TestP2_2Signs(t *testing.T) {
	for _, s := range allSigns() {
		wantOne(t, s, api.Token{Kind: api.TokPunct, Text: s})
	}
	for s, want := range map[string]string{"a+++b": "a ++ + b", "<<<=": "<< <=", "<<==": "<<= =", ">>>=": ">> >=", "...": ". . .", "->>": "-> >", "--->": "-- ->", "&&&=": "&& &=", "===": "== =", "!==": "!= =", "~=": "~ =", "<-": "< -", "|||": "|| |", "*/": "* /", "1.5": "1 . 5", ".5": ". 5", "a->b": "a -> b", "?:": "? :"} {
		if got := texts(scanOK(t, s)); got != want {
			t.Errorf("Scan(%q) = %s, want %s", s, got, want)
		}
	}
}

// texts are tokens' texts (of numbers their values), a blank between each two.
func texts(l []api.Token) string {
	var all []string
	for _, x := range l {
		if x.Kind == api.TokInt {
			x.Text = strconv.Itoa(x.Num)
		}
		all = append(all, x.Text)
	}
	return strings.Join(all, " ")
}

func TestP2_2Example(t *testing.T) {
	s := "int a[2]={0x1f,'\\n'};"
	want := []api.Token{
		{Kind: api.TokWord, Text: "int"}, {Kind: api.TokName, Text: "a"}, {Kind: api.TokPunct, Text: "["},
		{Kind: api.TokInt, Text: "int", Num: 2}, {Kind: api.TokPunct, Text: "]"}, {Kind: api.TokPunct, Text: "="},
		{Kind: api.TokPunct, Text: "{"}, {Kind: api.TokInt, Text: "int", Num: 31}, {Kind: api.TokPunct, Text: ","},
		{Kind: api.TokChar, Num: 10}, {Kind: api.TokPunct, Text: "}"}, {Kind: api.TokPunct, Text: ";"},
	}
	if got := bare(scanOK(t, s)); !slices.Equal(got, want) {
		t.Errorf("Scan(%q) = %v, want %v", s, got, want)
	}
}

// bare are tokens without their spots.
func bare(l []api.Token) []api.Token {
	l = slices.Clone(l)
	for i := range l {
		l[i].At = api.Spot{}
	}
	return l
}

func TestP2_3Name(t *testing.T) {
	long := strings.Repeat("_", api.MaxName)
	for _, s := range []string{"a", "_", "Z9_", "Int", "INT", "integer", long} {
		if !Name(s) || Word(s) {
			t.Errorf("%q: Name %v, Word %v", s, Name(s), Word(s))
		}
	}
	for _, s := range keywords() {
		if Name(s) || !Word(s) {
			t.Errorf("%q: Name %v, Word %v", s, Name(s), Word(s))
		}
	}
	for _, s := range []string{"", " ", "a ", " a", "a\n", "//", "a//", "/**/a", "a b", "a-b", "9", "9a", "'a'", "\"a\"", "+", "\xe4", "a\xe4", "a\x00", "int ", " int", "int/**/", "int int", long + "_", strings.Repeat("a", api.MaxText+1)} {
		if Name(s) || Word(s) {
			t.Errorf("%.60q: Name %v, Word %v", s, Name(s), Word(s))
		}
	}
	for c := range 256 {
		s := string([]byte{'a', byte(c)})
		l, f := Scan(s)
		if want := f.Code == api.OK && len(l) == 2 && l[0].Text == s; Name(s) != want {
			t.Errorf("Name(%q) = %v", s, !want)
		}
		l, f = Scan(s[1:])
		if want := f.Code == api.OK && len(l) == 2 && l[0].Kind == api.TokName; Name(s[1:]) != want {
			t.Errorf("Name(%q) = %v", s[1:], !want)
		}
	}
}

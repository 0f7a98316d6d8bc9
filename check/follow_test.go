package check

import (
	"math/rand"
	"reflect"
	"strings"
	"testing"

	"mortise/api"
	"mortise/parse"
	"mortise/token"
	"mortise/tree"
)

// eachGrown grows so many texts, the later ones with ever more names that may be wrong.
func eachGrown(n int, do func(g *grower, text string)) {
	g := &grower{Rand: rand.New(rand.NewSource(10))}
	for i := range n {
		g.wild = []int{0, 0, 200, 60, 20}[i%5]
		do(g, g.unit())
	}
}

// TestP10_3Any: what grown texts answer is typed, and most of them have a program.
func TestP10_3Any(t *testing.T) {
	right, kinds, codes := 0, map[api.TreeKind]int{}, map[api.Errno]int{}
	eachGrown(3000, func(g *grower, text string) {
		p, f := Text(text)
		codes[f.Code]++
		if f.Code != api.OK {
			if g.wild == 0 || !reflect.DeepEqual(p, api.Prog{}) {
				t.Fatalf("%q: %v", text, f)
			}
			return
		}
		right++
		judge(t, text, p)
		for i := range p.Funcs {
			everyNode(&p.Funcs[i].Body, func(x *api.Tree) { kinds[x.Kind]++ })
		}
	})
	if right < 2000 {
		t.Errorf("only %d texts have a program", right)
	}
	for k, name := range kindNames {
		if kinds[k] < 20 && k != api.TxExit && k != api.TxVoid {
			t.Errorf("only %d times %s", kinds[k], name)
		}
	}
	for _, code := range []api.Errno{api.ErrName, api.ErrTwice, api.ErrOperand} {
		if codes[code] < 20 {
			t.Errorf("only %d times error %d", codes[code], code)
		}
	}
}

// spread is a text with other blanks between its tokens.
func spread(g *rand.Rand, text string) string {
	l, _ := token.Scan(text)
	var b strings.Builder
	for i, k := range l {
		b.WriteString([]string{" ", "\n", "\t", "  ", " /* int x; */ ", " // y\n", " \f\v\r"}[g.Intn(7)])
		end := len(text)
		if i+1 < len(l) {
			end = l[i+1].At.Off
		}
		b.WriteString(strings.TrimSpace(text[k.At.Off:end]))
	}
	return b.String()
}

// tokenAt is which token of a text begins at a spot, or -1.
func tokenAt(text string, at api.Spot) int {
	l, _ := token.Scan(text)
	for i, k := range l {
		if k.At == at {
			return i
		}
	}
	return -1
}

// TestP10_3Blanks: blanks turn nothing but the spots of faults, and what is written of a text's tree is the same program.
func TestP10_3Blanks(t *testing.T) {
	eachGrown(400, func(g *grower, text string) {
		p, f := Text(text)
		wide := spread(g.Rand, text)
		q, h := Text(wide)
		if h.Code != f.Code || !reflect.DeepEqual(p, q) {
			t.Fatalf("%q: %v, with other blanks %v", text, f, h)
		}
		if f.At != (api.Spot{}) && tokenAt(text, f.At) != tokenAt(wide, h.At) || f.At == (api.Spot{}) && h.At != f.At {
			t.Fatalf("%q: %v, with other blanks %v", text, f, h)
		}
		x, _ := parse.Unit(text)
		printed, err := tree.Print(x)
		if q, h := Text(printed); err == api.OK && (h.Code != f.Code || !reflect.DeepEqual(p, q)) {
			t.Fatalf("%q: %v, printed %v", text, f, h)
		}
	})
}

// TestP10_3Beginnings: what stands ahead of a fault has none, and what stands behind it turns nothing.
func TestP10_3Beginnings(t *testing.T) {
	faulty := 0
	eachGrown(1500, func(g *grower, text string) {
		x, _ := parse.Unit(text)
		_, f := Text(text)
		met := -1
		for n := range len(x.Sub) + 1 {
			ahead := x
			ahead.Sub = x.Sub[:n]
			_, h := Check(ahead)
			isEnd := h.Code == api.OK || h.Code == api.ErrMain || h.Code == api.ErrDeclare
			switch {
			case met >= 0 && h != f:
				t.Fatalf("%q: %v, its first %d parts %v", text, f, n, h)
			case met < 0 && !isEnd:
				met = n
				if h != f {
					t.Fatalf("%q: %v, its first %d parts %v", text, f, n, h)
				}
			}
		}
		faulty += min(met+1, 1)
	})
	if faulty < 80 {
		t.Errorf("only %d faults", faulty)
	}
}

// TestP10_3Changed: texts with tokens taken out, doubled or exchanged end with a program that is typed, or with a fault at a token.
func TestP10_3Changed(t *testing.T) {
	right, wrong := 0, map[api.Errno]int{}
	eachGrown(1500, func(g *grower, text string) {
		g.wild = 0
		l, _ := token.Scan(text)
		l = l[:len(l)-1]
		for range 1 + g.Intn(3) {
			i, j := g.Intn(len(l)), g.Intn(len(l))
			switch g.Intn(4) {
			case 0:
				l = append(append([]api.Token(nil), l[:i]...), l[i+1:]...)
			case 1:
				l = append(append(append([]api.Token(nil), l[:i]...), l[i]), l[i:]...)
			case 2:
				l[i], l[j] = l[j], l[i]
			case 3:
				l[i] = l[j]
			}
		}
		changed, err := token.Join(l)
		if _, f := parse.Unit(changed); err != api.OK || f.Code != api.OK {
			return
		}
		p, f := Text(changed)
		if f.Code == api.OK {
			right++
			judge(t, changed, p)
			return
		}
		wrong[f.Code]++
		if f.Code != api.ErrMain && tokenAt(changed, f.At) < 0 || !reflect.DeepEqual(p, api.Prog{}) {
			t.Errorf("%q: %v", changed, f)
		}
	})
	if right < 30 || len(wrong) < 5 {
		t.Errorf("only %d programs, and %v", right, wrong)
	}
}

// TestP10_3Same: the same text has the same answer, whatever was asked between.
func TestP10_3Same(t *testing.T) {
	var texts []string
	var progs []api.Prog
	var faults []api.Fault
	eachGrown(100, func(g *grower, text string) {
		p, f := Text(text)
		texts, progs, faults = append(texts, text), append(progs, p), append(faults, f)
	})
	for i := len(texts) - 1; i >= 0; i-- {
		if p, f := Text(texts[i]); f != faults[i] || !reflect.DeepEqual(p, progs[i]) {
			t.Errorf("%q: at first %v, then %v", texts[i], faults[i], f)
		}
	}
}

// sortOf is which of a tree's places a node may stand in: those of expressions, specifiers, declarators or statements (0: of none of these).
func sortOf(k api.TreeKind) int {
	switch {
	case k == api.TrStr || k >= api.TrName && k <= api.TrLit:
		return 1
	case k == api.TrBase || k == api.TrTag || k == api.TrAlias:
		return 2
	case k == api.TrHole || k == api.TrPtr || k == api.TrArray || k == api.TrFn:
		return 3
	case k >= api.TsBlock && k <= api.TsReturn:
		return 4
	}
	return 0
}

// TestP10_3Trees: trees in which parts stand that no text has there end with a program that is typed, or with a fault.
func TestP10_3Trees(t *testing.T) {
	right, taken, codes := 0, 0, map[api.Errno]int{}
	eachGrown(1500, func(g *grower, text string) {
		x, _ := parse.Unit(text + " typedef int T; T y; int z = sizeof(T *), w[2];")
		var parts []*api.Tree
		everyNode(&x, func(x *api.Tree) { parts = append(parts, x) })
		for range 1 + g.Intn(3) {
			to, from := parts[g.Intn(len(parts))], parts[g.Intn(len(parts))]
			if sortOf(to.Kind) != 0 && sortOf(to.Kind) == sortOf(from.Kind) {
				spot := to.At
				*to = tree.Bare(*from)
				to.At = spot
			}
		}
		if tree.Check(x) != api.OK {
			return
		}
		taken++
		p, f := Check(x)
		codes[f.Code]++
		if f.Code == api.OK {
			right++
			judge(t, text, p)
		} else if !reflect.DeepEqual(p, api.Prog{}) {
			t.Errorf("%q: a program beside %v", text, f)
		}
	})
	if taken < 500 || right < 100 || len(codes) < 8 {
		t.Errorf("only %d trees, %d programs, and %v", taken, right, codes)
	}
}

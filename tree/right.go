package tree

import (
	"mortise/api"
	"mortise/token"
)

// right tells whether a tree is right. It may not be deeper than MaxNest levels.
func right(x api.Tree) bool {
	return x.Type == 0 && textFits(x) && numFits(x) && partsFit(x) && restFits(x)
}

// partsFit tells whether the parts are those that the kind's places want, and right.
func partsFit(x api.Tree) bool {
	left := x.Sub
	take := func(p part) bool {
		n := 0
		for n < min(p.most, len(left)) && p.kinds.has(left[n].Kind) && right(left[n]) {
			n++
		}
		left = left[n:]
		return n >= p.least
	}
	places, ok := partsOf(x.Kind)
	for i := 0; i < len(places) && ok; i++ {
		ok = take(places[i])
	}
	return ok && len(left) == 0
}

// textFits tells whether a node's Text is one that its kind has.
func textFits(x api.Tree) bool {
	switch x.Kind {
	case api.TrDot, api.TrName, api.TrCall, api.TrMember, api.TrArrow, api.TrAlias, api.TrVar, api.TrEnum, api.TrFunc:
		return token.Name(x.Text)
	case api.TrTag, api.TrParam, api.TrField:
		return x.Text == "" || token.Name(x.Text)
	case api.TrUn:
		return isUnary(x.Text)
	case api.TrPost:
		return isStep(x.Text)
	case api.TrBi:
		return levelOf(x.Text) >= 0
	case api.TrSet:
		return isSet(x.Text)
	case api.TrBase:
		return isBase(x.Text)
	case api.TrStr, api.TrInt: // a string has any bytes, of a number numFits asks for both
		return true
	}
	return x.Text == ""
}

// numFits tells whether a node's Num is one that its kind has.
func numFits(x api.Tree) bool {
	switch x.Kind {
	case api.TrInt:
		_, err := token.Write(number(x))
		return err == api.OK
	case api.TrChr:
		return x.Num >= -128 && x.Num <= 127
	case api.TrTag:
		return x.Num >= 1 && x.Num <= 3
	case api.TrDecl:
		return x.Num >= 0 && x.Num <= 2
	case api.TrFunc:
		return x.Num == 0 || x.Num == 2
	}
	return x.Num == 0
}

// restFits tells what the chapter asks for beneath its table, of a node whose parts are right.
func restFits(x api.Tree) bool {
	switch x.Kind {
	case api.TrTag:
		return bodyFits(x)
	case api.TrBody:
		return alike(x.Sub)
	case api.TrField:
		return x.Text != "" || len(x.Sub) == 2
	case api.TsIf:
		return len(x.Sub) == 2 || !open(x.Sub[1])
	}
	return true
}

// bodyFits tells whether a TrTag has the body that it wants.
func bodyFits(x api.Tree) bool {
	if len(x.Sub) == 0 {
		return x.Text != ""
	}
	enums := x.Sub[0].Sub[0].Kind == api.TrEnum
	return enums == (x.Num == 3)
}

// alike tells whether all parts have one kind.
func alike(l []api.Tree) bool {
	for _, x := range l {
		if x.Kind != l[0].Kind {
			return false
		}
	}
	return true
}

// open tells whether an else behind a statement would go to a TsIf within it.
func open(x api.Tree) bool {
	switch x.Kind {
	case api.TsIf:
		return len(x.Sub) == 2 || open(x.Sub[2])
	case api.TsWhile:
		return open(x.Sub[1])
	case api.TsFor:
		return open(x.Sub[3])
	}
	return false
}

package tree

import "mortise/api"

// writer has the tokens that were written so far, and how each kind is written.
type writer struct {
	out   []api.Token
	kinds map[api.TreeKind]func(w *writer, x api.Tree)
}

// kinds makes the table of how each kind is written.
func kinds() map[api.TreeKind]func(w *writer, x api.Tree) {
	return map[api.TreeKind]func(w *writer, x api.Tree){
		api.TrList:     (*writer).list,
		api.TrItem:     (*writer).item,
		api.TrAt:       (*writer).at,
		api.TrDot:      (*writer).dot,
		api.TrName:     (*writer).named,
		api.TrInt:      (*writer).number,
		api.TrChr:      (*writer).char,
		api.TrStr:      (*writer).text,
		api.TrUn:       (*writer).unary,
		api.TrPost:     (*writer).post,
		api.TrBi:       (*writer).binary,
		api.TrSet:      (*writer).set,
		api.TrCond:     (*writer).cond,
		api.TrCall:     (*writer).call,
		api.TrIndex:    (*writer).index,
		api.TrMember:   (*writer).member,
		api.TrArrow:    (*writer).arrow,
		api.TrCast:     (*writer).cast,
		api.TrSizeE:    (*writer).sizeOfExpr,
		api.TrSizeT:    (*writer).sizeOfType,
		api.TrOffset:   (*writer).offset,
		api.TrLit:      (*writer).cast,
		api.TrBase:     (*writer).base,
		api.TrTag:      (*writer).tag,
		api.TrBody:     (*writer).body,
		api.TrAlias:    (*writer).named,
		api.TrPtr:      (*writer).alone,
		api.TrArray:    (*writer).alone,
		api.TrFn:       (*writer).alone,
		api.TrHole:     (*writer).alone,
		api.TrParam:    (*writer).param,
		api.TrType:     (*writer).param,
		api.TrDecl:     (*writer).decl,
		api.TrVar:      (*writer).variable,
		api.TrFields:   (*writer).fields,
		api.TrField:    (*writer).field,
		api.TrEnum:     (*writer).enum,
		api.TrFunc:     (*writer).function,
		api.TrUnit:     (*writer).unit,
		api.TsBlock:    (*writer).block,
		api.TsExpr:     (*writer).expr,
		api.TsNone:     (*writer).none,
		api.TsIf:       (*writer).choice,
		api.TsWhile:    (*writer).while,
		api.TsDo:       (*writer).do,
		api.TsFor:      (*writer).loop,
		api.TsBreak:    (*writer).leave,
		api.TsContinue: (*writer).next,
		api.TsReturn:   (*writer).answer,
	}
}

// node writes a tree without parentheses round it.
func (w *writer) node(x api.Tree) { w.kinds[x.Kind](w, x) }

// part writes a part, in parentheses if its level is below what its place wants.
func (w *writer) part(x api.Tree, wants int) {
	if level(x) < wants {
		w.closed("(", func() { w.node(x) }, ")")
		return
	}
	w.node(x)
}

// closed writes what stands between two signs.
func (w *writer) closed(ahead string, inner func(), behind string) {
	w.signs(ahead)
	inner()
	w.signs(behind)
}

// all writes parts one behind the other.
func (w *writer) all(l []api.Tree, wants int) {
	for _, x := range l {
		w.part(x, wants)
	}
}

// commas writes parts with commas between. Such parts are arguments, or no expressions.
func (w *writer) commas(l []api.Tree) {
	for i, x := range l {
		if i > 0 {
			w.signs(",")
		}
		w.part(x, setLevel)
	}
}

// behind writes a sign and a part, if the part stands there.
func (w *writer) behind(sign string, l []api.Tree, wants int) {
	if len(l) > 0 {
		w.signs(sign)
		w.all(l, wants)
	}
}

// put writes tokens.
func (w *writer) put(l ...api.Token) { w.out = append(w.out, l...) }

// signs writes signs.
func (w *writer) signs(texts ...string) { w.texts(api.TokPunct, texts...) }

// words writes keywords.
func (w *writer) words(texts ...string) { w.texts(api.TokWord, texts...) }

// texts writes tokens of one kind that are told by their texts alone.
func (w *writer) texts(k api.TokenKind, texts ...string) {
	for _, s := range texts {
		w.put(api.Token{Kind: k, Text: s})
	}
}

// name writes a name, if there is one.
func (w *writer) name(s string) {
	if s != "" {
		w.texts(api.TokName, s)
	}
}

package phrase

import (
	"starling/api"
	"starling/walk"
)

// How much binds, from what binds least. One step up is what the right one of two must bind, so that the left one binds first.
const (
	asOr = iota
	asAnd
	asNot
	asComparison
	asAdd
	asMul
	asNeg
	asOne
)

const (
	nullWord    = "null"
	notWord     = "not"
	isWord      = "is"
	inWord      = "in"
	andWord     = "and"
	betweenWord = "between"
	likeWord    = "like"
	opened      = "("
	closed      = ")"
	comma       = ","
	minus       = "-"
)

// midst: a word or a sign that stands between two kids, by its token's kind.
type midst struct {
	op, binds, kind int
	s               string
}

var midsts = [...]midst{
	{api.OpOr, asOr, api.Word, "or"},
	{api.OpAnd, asAnd, api.Word, andWord},
	{api.OpEq, asComparison, api.Sign, "="},
	{api.OpNe, asComparison, api.Sign, "<>"},
	{api.OpLt, asComparison, api.Sign, "<"},
	{api.OpLe, asComparison, api.Sign, "<="},
	{api.OpGt, asComparison, api.Sign, ">"},
	{api.OpGe, asComparison, api.Sign, ">="},
	{api.OpAdd, asAdd, api.Sign, "+"},
	{api.OpSub, asAdd, api.Sign, minus},
	{api.OpMul, asMul, api.Sign, "*"},
	{api.OpDiv, asMul, api.Sign, "/"},
	{api.OpMod, asMul, api.Sign, "%"},
}

// part of what a node is told by: a word, a sign, an api.Value (a literal) or a kid.
type part any

type word string

type sign string

// kid by its place; it stands in brackets, if it binds less than least.
type kid struct{ place, least int }

// told: the tokens of an expression, and how much they bind.
type told struct {
	binds  int
	tokens []api.Token
}

// Tell tells the tokens of a right expression.
func Tell(e []api.Node) []api.Token {
	// No error is there, and one of them is left: that of the root.
	all, _ := walk.Up(e, toldOf)
	return all[0].tokens
}

// toldOf tells the tokens of a node by those of its kids.
func toldOf(n api.Node, kids []told) (told, api.Errno) {
	binds, parts := partsOf(n)
	var tokens []api.Token
	for _, p := range parts {
		tokens = append(tokens, tokensOf(p, kids)...)
	}
	return told{binds, tokens}, api.OK
}

// tokensOf tells the tokens of a part of a node with these kids.
func tokensOf(p part, kids []told) []api.Token {
	switch p := p.(type) {
	case word:
		return []api.Token{{Kind: api.Word, S: string(p)}}
	case sign:
		return []api.Token{{Kind: api.Sign, S: string(p)}}
	case api.Value:
		return []api.Token{literalToken(p)}
	case kid:
		return kids[p.place].atLeast(p.least)
	}
	return nil
}

// atLeast tells the tokens of an expression where something must bind that much.
func (t told) atLeast(least int) []api.Token {
	if t.binds >= least {
		return t.tokens
	}
	tokens := []api.Token{{Kind: api.Sign, S: opened}}
	tokens = append(tokens, t.tokens...)
	return append(tokens, api.Token{Kind: api.Sign, S: closed})
}

func literalToken(v api.Value) api.Token {
	switch v.Kind {
	case api.Int:
		return api.Token{Kind: api.Number, N: v.N}
	case api.Text:
		return api.Token{Kind: api.Quote, S: v.S}
	case api.Blob:
		return api.Token{Kind: api.Bytes, S: v.S}
	}
	return api.Token{Kind: api.Word, S: nullWord}
}

// partsOf tells how much a node binds, and by what it is told.
func partsOf(n api.Node) (int, []part) {
	switch n.Op {
	case api.OpLit:
		return asOne, []part{n.V}
	case api.OpCol:
		return asOne, []part{word(n.Name)}
	case api.OpNeg:
		return asNeg, []part{sign(minus), kid{0, asNeg}}
	case api.OpNot:
		return asNot, []part{word(notWord), kid{0, asNot}}
	case api.OpIsNull:
		return comparison(false, word(isWord), word(nullWord))
	case api.OpNotNull:
		return comparison(false, word(isWord), word(notWord), word(nullWord))
	case api.OpLike, api.OpNotLike:
		return comparison(n.Op == api.OpNotLike, word(likeWord), kid{1, asAdd})
	case api.OpIn, api.OpNotIn:
		return comparison(n.Op == api.OpNotIn, listParts(n.Kids)...)
	case api.OpBetween, api.OpNotBetween:
		return comparison(n.Op == api.OpNotBetween, word(betweenWord), kid{1, asAdd}, word(andWord), kid{2, asAdd})
	}
	return twoParts(n.Op)
}

// comparison tells what stands behind the left kid of what compares, behind a not, if so.
func comparison(not bool, behind ...part) (int, []part) {
	parts := []part{kid{0, asAdd}}
	if not {
		parts = append(parts, word(notWord))
	}
	return asComparison, append(parts, behind...)
}

// listParts tells the list in which the first one of so many kids is looked for.
func listParts(kids int) []part {
	parts := []part{word(inWord), sign(opened)}
	for place := 1; place < kids; place++ {
		if place > 1 {
			parts = append(parts, sign(comma))
		}
		parts = append(parts, kid{place, asOr})
	}
	return append(parts, sign(closed))
}

// twoParts tells two kids with a word or a sign between them.
func twoParts(op int) (int, []part) {
	m := midstOf(op)
	left := m.binds
	if m.binds == asComparison {
		// What compares does not stand in a row with its like.
		left++
	}
	parts := []part{kid{0, left}, word(m.s), kid{1, m.binds + 1}}
	if m.kind == api.Sign {
		parts[1] = sign(m.s)
	}
	return m.binds, parts
}

func midstOf(op int) midst {
	for _, m := range midsts {
		if m.op == op {
			return m
		}
	}
	return midst{}
}

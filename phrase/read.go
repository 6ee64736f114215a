// Package phrase: expressions as tokens, of whatever size: how they are read, and how they are told.
package phrase

import (
	"starling/api"
	"starling/lex"
	"starling/names"
)

// gaveUp is what a reader panics with, where tokens are no expression.
type gaveUp struct{}

// reader takes tokens off the front of what is left, and sets nodes behind one another.
type reader struct {
	rest  []api.Token
	nodes []api.Node
}

// Check tells what is wrong with tokens that are to be read, whatever they say.
func Check(l []api.Token) api.Errno {
	if len(l) > api.MaxTokens {
		return api.ErrMany
	}
	for _, token := range l {
		// One token alone is never longer than a text of commands may be: so each error of Print is one of the token's own.
		if _, err := lex.Print([]api.Token{token}); err != api.OK {
			return err
		}
	}
	return api.OK
}

// Read tells the nodes of right tokens, if all of them are one expression, of whatever size.
func Read(l []api.Token) (e []api.Node, ok bool) {
	defer func() {
		if caught := recover(); caught != nil {
			// What is no gaveUp is a fault of the program, and goes on as a panic.
			_ = caught.(gaveUp)
			e, ok = nil, false
		}
	}()
	r := &reader{rest: l}
	r.or()
	if len(r.rest) > 0 {
		panic(gaveUp{})
	}
	return r.nodes, true
}

// is tells whether the next token is that word or sign.
func (r *reader) is(kind int, s string) bool {
	return len(r.rest) > 0 && r.rest[0].Kind == kind && r.rest[0].S == s
}

// take takes the next token, if it is that word or sign.
func (r *reader) take(kind int, s string) bool {
	if !r.is(kind, s) {
		return false
	}
	r.rest = r.rest[1:]
	return true
}

// must takes that word or sign.
func (r *reader) must(kind int, s string) {
	if !r.take(kind, s) {
		panic(gaveUp{})
	}
}

// takeMidst takes what stands between two kids and binds so much, if that is next, and tells its op.
func (r *reader) takeMidst(binds int) (int, bool) {
	for _, m := range midsts {
		if m.binds == binds && r.take(m.kind, m.s) {
			return m.op, true
		}
	}
	return 0, false
}

// add sets a node behind its kids.
func (r *reader) add(op, kids int) {
	r.nodes = append(r.nodes, api.Node{Op: op, Kids: kids})
}

// row reads some of those that bind more, with what binds so much between them; what stands on the left binds first.
func (r *reader) row(binds int, more func()) {
	more()
	for {
		op, ok := r.takeMidst(binds)
		if !ok {
			return
		}
		more()
		r.add(op, 2)
	}
}

// ahead reads one that binds more, or a word or sign of one kid, and its kid.
func (r *reader) ahead(op, kind int, s string, more func()) {
	if !r.take(kind, s) {
		more()
		return
	}
	r.ahead(op, kind, s, more)
	r.add(op, 1)
}

func (r *reader) or() { r.row(asOr, r.and) }

func (r *reader) and() { r.row(asAnd, r.not) }

func (r *reader) not() { r.ahead(api.OpNot, api.Word, notWord, r.comparison) }

func (r *reader) sum() { r.row(asAdd, r.product) }

func (r *reader) product() { r.row(asMul, r.neg) }

func (r *reader) neg() { r.ahead(api.OpNeg, api.Sign, minus, r.one) }

// comparison reads a sum, and what it is held against, if anything.
func (r *reader) comparison() {
	r.sum()
	if op, ok := r.takeMidst(asComparison); ok {
		r.sum()
		r.add(op, 2)
		return
	}
	if r.take(api.Word, isWord) {
		r.null()
		return
	}
	if r.take(api.Word, notWord) {
		if !r.worded(api.OpNotLike, api.OpNotIn, api.OpNotBetween) {
			panic(gaveUp{})
		}
		return
	}
	r.worded(api.OpLike, api.OpIn, api.OpBetween)
}

// null reads what stands behind is.
func (r *reader) null() {
	op := api.OpIsNull
	if r.take(api.Word, notWord) {
		op = api.OpNotNull
	}
	r.must(api.Word, nullWord)
	r.add(op, 1)
}

// worded reads a comparison that begins by a word, a not ahead of it or none, and tells whether there is one.
func (r *reader) worded(like, in, between int) bool {
	switch {
	case r.take(api.Word, likeWord):
		r.sum()
		r.add(like, 2)
	case r.take(api.Word, inWord):
		r.add(in, 1+r.list())
	case r.take(api.Word, betweenWord):
		r.sum()
		r.must(api.Word, andWord)
		r.sum()
		r.add(between, 3)
	default:
		return false
	}
	return true
}

// list reads a list between brackets, and tells how many it has.
func (r *reader) list() int {
	r.must(api.Sign, opened)
	r.or()
	size := 1
	for r.take(api.Sign, comma) {
		r.or()
		size++
	}
	r.must(api.Sign, closed)
	return size
}

// one reads a literal, a name, or an expression between brackets.
func (r *reader) one() {
	if r.take(api.Sign, opened) {
		r.or()
		r.must(api.Sign, closed)
		return
	}
	if len(r.rest) == 0 {
		panic(gaveUp{})
	}
	r.nodes = append(r.nodes, leafOf(r.rest[0]))
	r.rest = r.rest[1:]
}

// leafOf tells the literal or the column of a token.
func leafOf(t api.Token) api.Node {
	switch {
	case t.Kind == api.Number:
		return api.Node{Op: api.OpLit, V: api.Value{Kind: api.Int, N: t.N}}
	case t.Kind == api.Quote:
		return api.Node{Op: api.OpLit, V: api.Value{Kind: api.Text, S: t.S}}
	case t.Kind == api.Bytes:
		return api.Node{Op: api.OpLit, V: api.Value{Kind: api.Blob, S: t.S}}
	case t.Kind == api.Word && t.S == nullWord:
		return api.Node{Op: api.OpLit}
	case t.Kind == api.Word && names.Is(t.S):
		return api.Node{Op: api.OpCol, Name: t.S}
	}
	panic(gaveUp{})
}

package stmt

import (
	"starling/api"
	"starling/names"
	"starling/phrase"
)

// gaveUp is what a reader panics with, where tokens are no command.
type gaveUp struct{}

// reader takes tokens off the front of what is left.
type reader struct{ rest []api.Token }

// read tells the command of right tokens, if all of them are one, whether it is right or not.
func read(l []api.Token) (s api.Stmt, ok bool) {
	defer func() {
		if caught := recover(); caught != nil {
			// What is no gaveUp is a fault of the program, and goes on as a panic.
			_ = caught.(gaveUp)
			s, ok = api.Stmt{}, false
		}
	}()
	r := &reader{rest: l}
	s = r.command()
	r.take(";")
	if len(r.rest) > 0 {
		panic(gaveUp{})
	}
	return s, true
}

// list reads one or more, with a , between two.
func list[T any](r *reader, one func() T) []T {
	l := []T{one()}
	for r.take(",") {
		l = append(l, one())
	}
	return l
}

// is tells whether a token is that word or sign. (No word has a sign's text.)
func is(t api.Token, s string) bool {
	return (t.Kind == api.Word || t.Kind == api.Sign) && t.S == s
}

// take takes the next token, if it is that word or sign.
func (r *reader) take(s string) bool {
	if len(r.rest) == 0 || !is(r.rest[0], s) {
		return false
	}
	r.rest = r.rest[1:]
	return true
}

// must takes words and signs, one behind the other.
func (r *reader) must(l ...string) {
	for _, s := range l {
		if !r.take(s) {
			panic(gaveUp{})
		}
	}
}

// next takes the next token, which must be of a kind.
func (r *reader) next(kind int) api.Token {
	if len(r.rest) == 0 || r.rest[0].Kind != kind {
		panic(gaveUp{})
	}
	token := r.rest[0]
	r.rest = r.rest[1:]
	return token
}

func (r *reader) name() string {
	s := r.next(api.Word).S
	if !names.Is(s) {
		panic(gaveUp{})
	}
	return s
}

func (r *reader) number() int {
	return int(r.next(api.Number).N)
}

// command reads what stands ahead of the ; at the end.
func (r *reader) command() api.Stmt {
	switch r.next(api.Word).S {
	case "create":
		return r.create()
	case "drop":
		r.must("table")
		return api.Stmt{Kind: api.Drop, Table: r.name()}
	case "insert":
		return r.insert()
	case "select":
		return r.selection()
	case "update":
		return r.update()
	case "delete":
		r.must("from")
		return api.Stmt{Kind: api.Delete, Table: r.name(), Where: r.where()}
	case "begin":
		return api.Stmt{Kind: api.Begin}
	case "commit":
		return api.Stmt{Kind: api.Commit}
	case "rollback":
		return api.Stmt{Kind: api.Rollback}
	}
	panic(gaveUp{})
}

func (r *reader) create() api.Stmt {
	r.must("table")
	s := api.Stmt{Kind: api.Create, Table: r.name()}
	r.must("(")
	s.Cols = list(r, r.column)
	r.must(")")
	return s
}

func (r *reader) column() api.Column {
	c := api.Column{Name: r.name(), Kind: r.kind()}
	if r.take("not") {
		r.must("null")
		c.NotNull = true
	}
	c.Unique = r.take("unique")
	return c
}

// kind takes the word of a kind; if there is none, any is meant.
func (r *reader) kind() int {
	for kind, word := range kindWords {
		if r.take(word) {
			return kind
		}
	}
	return 0
}

func (r *reader) insert() api.Stmt {
	r.must("into")
	s := api.Stmt{Kind: api.Insert, Table: r.name()}
	r.must("values")
	s.Rows = list(r, r.row)
	return s
}

func (r *reader) row() [][]api.Node {
	r.must("(")
	row := list(r, r.expr)
	r.must(")")
	return row
}

func (r *reader) update() api.Stmt {
	s := api.Stmt{Kind: api.Update, Table: r.name()}
	r.must("set")
	s.Sets = list(r, r.assign)
	s.Where = r.where()
	return s
}

func (r *reader) assign() api.Assign {
	name := r.name()
	r.must("=")
	return api.Assign{Name: name, E: r.expr()}
}

func (r *reader) selection() api.Stmt {
	s := api.Stmt{Kind: api.Select, Distinct: r.take("distinct")}
	if !r.take("*") {
		s.Items = list(r, r.item)
	}
	r.must("from")
	s.Table = r.name()
	s.Where = r.where()
	if r.take("group") {
		r.must("by")
		s.By = list(r, r.name)
	}
	if r.take("order") {
		r.must("by")
		s.Order = list(r, r.key)
	}
	s.Lim = r.take("limit")
	if s.Lim {
		s.Most = r.number()
	}
	if s.Lim && r.take("offset") {
		s.Skip = r.number()
	}
	return s
}

func (r *reader) item() api.Item {
	agg := r.agg()
	if agg == 0 {
		return api.Item{E: r.expr()}
	}
	item := api.Item{Agg: agg}
	r.must("(")
	if agg != api.Count || !r.take("*") {
		item.E = columnOf(r.name())
	}
	r.must(")")
	return item
}

// agg takes the word of what is told of a group; 0, if there is none.
func (r *reader) agg() int {
	for i, word := range aggWords {
		if r.take(word) {
			return api.Count + i
		}
	}
	return 0
}

func (r *reader) key() api.Key {
	key := api.Key{Col: r.number() - 1}
	key.Desc = r.take("desc")
	if !key.Desc {
		r.take("asc")
	}
	return key
}

// where reads a where, if there is one.
func (r *reader) where() []api.Node {
	if !r.take("where") {
		return nil
	}
	return r.expr()
}

func (r *reader) expr() []api.Node {
	size := exprSize(r.rest)
	e, ok := phrase.Read(r.rest[:size])
	if !ok {
		panic(gaveUp{})
	}
	r.rest = r.rest[size:]
	return e
}

// exprSize tells how many tokens stand ahead of the first one that can't be in an expression.
func exprSize(l []api.Token) int {
	open := 0
	for i, token := range l {
		switch {
		case open == 0 && endsExpr(token):
			return i
		case is(token, "("):
			open++
		case is(token, ")"):
			open--
		}
	}
	return len(l)
}

// endsExpr tells whether a token can't be in an expression, outside of its own brackets.
func endsExpr(t api.Token) bool {
	if t.Kind != api.Word && t.Kind != api.Sign {
		return false
	}
	switch t.S {
	case ",", ")", ";", "from", "where", "group", "order", "limit":
		return true
	}
	return false
}

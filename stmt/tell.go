package stmt

import (
	"starling/api"
	"starling/phrase"
)

// teller sets tokens behind one another.
type teller struct{ tokens []api.Token }

// tellList tells each of a list, with a , between two.
func tellList[T any](t *teller, l []T, one func(T)) {
	for i, x := range l {
		if i > 0 {
			t.sign(",")
		}
		one(x)
	}
}

// words tells words, one behind the other.
func (t *teller) words(l ...string) {
	for _, s := range l {
		t.tokens = append(t.tokens, api.Token{Kind: api.Word, S: s})
	}
}

func (t *teller) word(s string) { t.words(s) }

func (t *teller) sign(s string) {
	t.tokens = append(t.tokens, api.Token{Kind: api.Sign, S: s})
}

func (t *teller) number(n int) {
	t.tokens = append(t.tokens, api.Token{Kind: api.Number, N: int64(n)})
}

func (t *teller) expr(e []api.Node) {
	t.tokens = append(t.tokens, phrase.Tell(e)...)
}

// command tells a right command.
func (t *teller) command(s api.Stmt) {
	switch s.Kind {
	case api.Create:
		t.create(s)
	case api.Drop:
		t.words("drop", "table", s.Table)
	case api.Insert:
		t.words("insert", "into", s.Table, "values")
		tellList(t, s.Rows, t.row)
	case api.Select:
		t.selection(s)
	case api.Update:
		t.words("update", s.Table, "set")
		tellList(t, s.Sets, t.assign)
		t.where(s.Where)
	case api.Delete:
		t.words("delete", "from", s.Table)
		t.where(s.Where)
	case api.Begin:
		t.words("begin")
	case api.Commit:
		t.words("commit")
	case api.Rollback:
		t.words("rollback")
	}
}

func (t *teller) create(s api.Stmt) {
	t.words("create", "table", s.Table)
	t.sign("(")
	tellList(t, s.Cols, t.column)
	t.sign(")")
}

func (t *teller) column(c api.Column) {
	t.words(c.Name)
	if c.Kind != 0 {
		t.words(kindWords[c.Kind])
	}
	if c.NotNull {
		t.words("not", "null")
	}
	if c.Unique {
		t.words("unique")
	}
}

func (t *teller) row(row [][]api.Node) {
	t.sign("(")
	tellList(t, row, t.expr)
	t.sign(")")
}

func (t *teller) assign(set api.Assign) {
	t.words(set.Name)
	t.sign("=")
	t.expr(set.E)
}

func (t *teller) selection(s api.Stmt) {
	t.words("select")
	if s.Distinct {
		t.words("distinct")
	}
	if len(s.Items) == 0 {
		t.sign("*")
	}
	tellList(t, s.Items, t.item)
	t.words("from", s.Table)
	t.where(s.Where)
	if len(s.By) > 0 {
		t.words("group", "by")
		tellList(t, s.By, t.word)
	}
	if len(s.Order) > 0 {
		t.words("order", "by")
		tellList(t, s.Order, t.key)
	}
	if s.Lim {
		t.words("limit")
		t.number(s.Most)
	}
	if s.Skip > 0 {
		t.words("offset")
		t.number(s.Skip)
	}
}

func (t *teller) item(item api.Item) {
	if item.Agg == 0 {
		t.expr(item.E)
		return
	}
	t.words(aggWords[item.Agg-api.Count])
	t.sign("(")
	if len(item.E) == 0 {
		t.sign("*")
	} else {
		t.expr(item.E)
	}
	t.sign(")")
}

func (t *teller) key(key api.Key) {
	t.number(key.Col + 1)
	if key.Desc {
		t.words("desc")
	}
}

func (t *teller) where(where []api.Node) {
	if len(where) > 0 {
		t.words("where")
		t.expr(where)
	}
}

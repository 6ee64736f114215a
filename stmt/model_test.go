package stmt

import (
	"math/bits"
	"reflect"
	"regexp"
	"slices"
	"strings"
	"testing"

	"starling/api"
	"starling/expr"
	"starling/lex"
)

// draw: numbers that are the same each time.
type draw uint64

func (d *draw) next() uint64 {
	*d = *d*6364136223846793005 + 1442695040888963407
	x := uint64(*d)
	return bits.RotateLeft64(x^x>>29, 23) * 0x9E3779B97F4A7C15
}

func (d *draw) below(n int) int { return int(d.next() >> 11 % uint64(n)) }

func (d *draw) coin() bool { return d.below(2) == 0 }

func (d *draw) one(l ...string) string { return l[d.below(len(l))] }

type nodes = []api.Node
type tokens = []api.Token

func long(n int) string { return strings.Repeat("w", n) }

// reserved words, as H4 has them.
func reserved() []string {
	return strings.Split("and, any, as, asc, begin, between, blob, by, commit, count, create, delete, desc, distinct, drop, from, group, in, insert, integer, into, is, like, limit, max, min, not, null, offset, or, order, rollback, select, set, sum, table, text, unique, update, values, where", ", ")
}

var wordForm = regexp.MustCompile(`\A[a-z_][a-z_0-9]{0,11}\z`)

func modelName(s string) bool { return wordForm.MatchString(s) && !slices.Contains(reserved(), s) }

// fields that each kind of command has, as api has them.
func fields() map[int][]string {
	return map[int][]string{
		api.Create: {"Table", "Cols"}, api.Drop: {"Table"}, api.Insert: {"Table", "Rows"},
		api.Select: {"Table", "Items", "Distinct", "Where", "By", "Order", "Lim", "Skip", "Most"},
		api.Update: {"Table", "Sets", "Where"}, api.Delete: {"Table", "Where"},
		api.Begin: {}, api.Commit: {}, api.Rollback: {},
	}
}

// tooBad: what stands for an expression that was read, but has an error.
const tooBad = 1000

func bad(err api.Errno) nodes { return nodes{{Op: tooBad + int(err)}} }

func modelExpr(e nodes) api.Errno {
	if len(e) == 1 && e[0].Op > tooBad {
		return api.Errno(e[0].Op - tooBad)
	}
	return expr.Check(e)
}

// modelCheck as in R2.
func modelCheck(s api.Stmt) api.Errno {
	has, ok := fields()[s.Kind]
	if !ok {
		return api.ErrKind
	}
	v := reflect.ValueOf(s)
	for i := range v.NumField() {
		f, name := v.Field(i), v.Type().Field(i).Name
		empty := f.IsZero() || f.Kind() == reflect.Slice && f.Len() == 0
		if name != "Kind" && !empty && !slices.Contains(has, name) {
			return api.ErrForm
		}
	}
	if len(has) > 0 && !modelName(s.Table) {
		return api.ErrForm
	}
	parts := map[int]func(api.Stmt) api.Errno{api.Create: modelCols, api.Insert: modelRows, api.Update: modelSets, api.Select: modelSelect}
	if check := parts[s.Kind]; check != nil {
		if err := check(s); err != api.OK {
			return err
		}
	}
	if len(s.Where) > 0 {
		return modelExpr(s.Where)
	}
	return api.OK
}

func modelCols(s api.Stmt) api.Errno {
	if len(s.Cols) == 0 {
		return api.ErrForm
	}
	if len(s.Cols) > 6 {
		return api.ErrMany
	}
	for i, c := range s.Cols {
		if !modelName(c.Name) {
			return api.ErrForm
		}
		if c.Kind < 0 || c.Kind > 3 {
			return api.ErrKind
		}
		if slices.ContainsFunc(s.Cols[:i], func(b api.Column) bool { return b.Name == c.Name }) {
			return api.ErrTwice
		}
	}
	return api.OK
}

func modelRows(s api.Stmt) api.Errno {
	if len(s.Rows) == 0 {
		return api.ErrForm
	}
	if len(s.Rows) > 4 {
		return api.ErrMany
	}
	for _, row := range s.Rows {
		if len(row) == 0 {
			return api.ErrForm
		}
		if len(row) > 6 {
			return api.ErrMany
		}
		for _, e := range row {
			if err := modelExpr(e); err != api.OK {
				return err
			}
		}
	}
	return api.OK
}

func modelSets(s api.Stmt) api.Errno {
	if len(s.Sets) == 0 {
		return api.ErrForm
	}
	if len(s.Sets) > 6 {
		return api.ErrMany
	}
	for i, set := range s.Sets {
		if !modelName(set.Name) {
			return api.ErrForm
		}
		if slices.ContainsFunc(s.Sets[:i], func(b api.Assign) bool { return b.Name == set.Name }) {
			return api.ErrTwice
		}
		if err := modelExpr(set.E); err != api.OK {
			return err
		}
	}
	return api.OK
}

func modelSelect(s api.Stmt) api.Errno {
	if len(s.Items) > 8 {
		return api.ErrMany
	}
	groups := len(s.By) > 0
	for _, item := range s.Items {
		if item.Agg < 0 || item.Agg > 4 {
			return api.ErrKind
		}
		if item.Agg == 0 {
			if err := modelExpr(item.E); err != api.OK {
				return err
			}
			continue
		}
		groups = true
		column := len(item.E) == 1 && item.E[0] == api.Node{Op: api.OpCol, Name: item.E[0].Name} && modelName(item.E[0].Name)
		rows := len(item.E) == 0 && item.Agg == 1
		if !column && !rows {
			return api.ErrForm
		}
	}
	if len(s.By) > 8 {
		return api.ErrMany
	}
	for _, name := range s.By {
		if !modelName(name) {
			return api.ErrForm
		}
	}
	if groups {
		for i := range max(len(s.By), len(s.Items)) {
			switch {
			case i >= len(s.Items):
				return api.ErrForm
			case i >= len(s.By) && s.Items[i].Agg == 0:
				return api.ErrForm
			case i < len(s.By) && (s.Items[i].Agg != 0 || !reflect.DeepEqual(s.Items[i].E, nodes{{Op: api.OpCol, Name: s.By[i]}})):
				return api.ErrForm
			}
		}
	}
	if len(s.Order) > 8 {
		return api.ErrMany
	}
	for _, key := range s.Order {
		if key.Col < 0 || key.Col > 7 {
			return api.ErrRange
		}
	}
	if s.Skip < 0 || s.Most < 0 {
		return api.ErrRange
	}
	if !s.Lim && (s.Skip > 0 || s.Most > 0) {
		return api.ErrForm
	}
	return api.OK
}

// say tells tokens: words and signs with blanks between, numbers, and expressions. More tells how often to do what need not be done.
type say struct {
	out  tokens
	more func() int
}

func (w *say) add(parts ...any) {
	for _, p := range parts {
		switch p := p.(type) {
		case string:
			for _, s := range strings.Fields(p) {
				kind := api.Word
				if strings.Contains("(),;*=", s) {
					kind = api.Sign
				}
				w.out = append(w.out, api.Token{Kind: kind, S: s})
			}
		case int:
			w.out = append(w.out, api.Token{Kind: api.Number, N: int64(p)})
		case nodes:
			n := w.more()
			w.add(strings.Repeat("( ", n))
			l, err := expr.Tokens(p)
			if err != api.OK {
				// Then all of them are too many, too.
				l = make(tokens, 121)
			}
			w.out = append(w.out, l...)
			w.add(strings.Repeat(") ", n))
		}
	}
}

// each tells what is told of so many, with a , between.
func (w *say) each(n int, one func(i int)) {
	for i := range n {
		if i > 0 {
			w.add(",")
		}
		one(i)
	}
}

// modelTokens as in R1, of a right command; with a ; and other things that may be left out, if more says so.
func modelTokens(s api.Stmt, more func() int) tokens {
	w := &say{more: more}
	spare := func(p ...any) {
		if more() > 0 {
			w.add(p...)
		}
	}
	switch s.Kind {
	case api.Create:
		w.add("create table", s.Table, "(")
		w.each(len(s.Cols), func(i int) {
			c := s.Cols[i]
			w.add(c.Name)
			if c.Kind == 0 {
				spare("any")
			} else {
				w.add([]string{"integer", "text", "blob"}[c.Kind-1])
			}
			if c.NotNull {
				w.add("not null")
			}
			if c.Unique {
				w.add("unique")
			}
		})
		w.add(")")
	case api.Drop:
		w.add("drop table", s.Table)
	case api.Insert:
		w.add("insert into", s.Table, "values")
		w.each(len(s.Rows), func(i int) {
			w.add("(")
			w.each(len(s.Rows[i]), func(k int) { w.add(s.Rows[i][k]) })
			w.add(")")
		})
	case api.Select:
		w.selection(s, spare)
	case api.Update:
		w.add("update", s.Table, "set")
		w.each(len(s.Sets), func(i int) { w.add(s.Sets[i].Name, "=", s.Sets[i].E) })
	case api.Delete:
		w.add("delete from", s.Table)
	default:
		w.add([]string{"begin", "commit", "rollback"}[s.Kind-api.Begin])
	}
	if s.Kind != api.Select && len(s.Where) > 0 {
		w.add("where", s.Where)
	}
	spare(";")
	return w.out
}

func (w *say) selection(s api.Stmt, spare func(p ...any)) {
	w.add("select")
	if s.Distinct {
		w.add("distinct")
	}
	if len(s.Items) == 0 {
		w.add("*")
	}
	w.each(len(s.Items), func(i int) {
		switch item := s.Items[i]; {
		case item.Agg == 0:
			w.add(item.E)
		case len(item.E) == 0:
			w.add("count ( * )")
		default:
			w.add([]string{"", "count", "sum", "min", "max"}[item.Agg], "(", item.E[0].Name, ")")
		}
	})
	w.add("from", s.Table)
	if len(s.Where) > 0 {
		w.add("where", s.Where)
	}
	if len(s.By) > 0 {
		w.add("group by", strings.Join(s.By, " , "))
	}
	if len(s.Order) > 0 {
		w.add("order by")
		w.each(len(s.Order), func(i int) {
			w.add(s.Order[i].Col + 1)
			if s.Order[i].Desc {
				w.add("desc")
			} else {
				spare("asc")
			}
		})
	}
	if s.Lim {
		w.add("limit", s.Most)
		if s.Skip > 0 {
			w.add("offset", s.Skip)
		} else {
			spare("offset", 0)
		}
	}
}

// coded: tokens as a text: names are N, numbers 1, texts and blobs L; behind an @ how many brackets they stand in (those themselves too), 2 for more; ahead of what ends an expression a !.
type coded struct {
	l     tokens
	s     string
	place map[int]int
	depth []int
}

func codedOf(l tokens) coded {
	c := coded{l: l, place: map[int]int{}}
	depth := 0
	for i, t := range l {
		code := t.S
		switch {
		case t.Kind == api.Number:
			code = "1"
		case t.Kind == api.Quote || t.Kind == api.Bytes:
			code = "L"
		case t.Kind == api.Word && modelName(t.S):
			code = "N"
		case slices.Contains(strings.Fields(", ) ; from where group order limit"), t.S):
			code = "!" + t.S
		}
		if code == "(" {
			depth++
		}
		c.place[len(c.s)] = i
		c.depth = append(c.depth, depth)
		c.s += code + "@" + string("012"[min(depth, 2)]) + " "
		if code == "!)" && depth > 0 {
			depth--
		}
	}
	c.place[len(c.s)] = len(l)
	return c
}

// forms of commands, as R1 has them, of coded tokens.
func forms() map[int]*regexp.Regexp {
	e0, e1 := `(?:(?:!?[^ !]+@[12]|[^ !]+@0) )+`, `(?:(?:!?[^ !]+@2|[^ !]+@1) )+`
	list := func(one, comma string) string { return one + `(?:!,` + comma + ` ` + one + `)*` }
	where := `(?:!where@0 (?P<where>` + e0 + `))?`
	col := `N@1 (?:(?:any|integer|text|blob)@1 )?(?:not@1 null@1 )?(?:unique@1 )?`
	table := `(?P<table>N)@0 `
	out := map[int]*regexp.Regexp{}
	for kind, form := range map[int]string{
		api.Create:   `create@0 table@0 ` + table + `\(@1 (?P<cols>` + list(col, "@1") + `)!\)@1 `,
		api.Drop:     `drop@0 table@0 ` + table,
		api.Insert:   `insert@0 into@0 ` + table + `values@0 (?P<rows>` + list(`\(@1 `+list(e1, "@1")+`!\)@1 `, "@0") + `)`,
		api.Select:   `select@0 (?P<distinct>distinct@0 )?(?:\*@0 |(?P<items>` + list(e0, "@0") + `))!from@0 ` + table + where + `(?:!group@0 by@0 (?P<by>` + list("N@0 ", "@0") + `))?(?:!order@0 by@0 (?P<order>` + list(`1@0 (?:(?:asc|desc)@0 )?`, "@0") + `))?(?:!limit@0 (?P<most>1@0 )(?:offset@0 (?P<skip>1@0 ))?)?`,
		api.Update:   `update@0 ` + table + `set@0 (?P<sets>` + list(`N@0 =@0 `+e0, "@0") + `)` + where,
		api.Delete:   `delete@0 !from@0 ` + table + where,
		api.Begin:    `begin@0 `,
		api.Commit:   `commit@0 `,
		api.Rollback: `rollback@0 `,
	} {
		out[kind] = regexp.MustCompile(`\A` + form + `(?:!;@0 )?\z`)
	}
	return out
}

var allForms = forms()

// match: where the parts of a form begin and end.
type match struct {
	coded
	form   *regexp.Regexp
	places []int
}

func (m match) ends(part string) (int, int, bool) {
	i := m.form.SubexpIndex(part)
	if i < 0 || m.places[2*i] < 0 {
		return 0, 0, false
	}
	if part == "table" {
		at := m.place[m.places[2*i]]
		return at, at + 1, true
	}
	return m.place[m.places[2*i]], m.place[m.places[2*i+1]], true
}

// split tells where the parts of a list begin and end, with a , in so many brackets between.
func (m match) split(part string, depth int) [][2]int {
	from, to, ok := m.ends(part)
	if !ok {
		return nil
	}
	return m.cut(from, to, depth)
}

func (m match) cut(from, to, depth int) [][2]int {
	var out [][2]int
	for i := from; i < to; i++ {
		if m.l[i].Kind == api.Sign && m.l[i].S == "," && m.depth[i] == depth {
			out = append(out, [2]int{from, i})
			from = i + 1
		}
	}
	return append(out, [2]int{from, to})
}

// formed tells whether tokens are an expression, of whatever size: where Parse says that they have no form, it may mean that a list is too long.
func formed(l tokens) bool {
	if _, err := expr.Parse(l); err != api.ErrForm {
		return true
	}
	c := codedOf(l)
	for i := range l {
		if i+1 == len(l) || l[i].Kind != api.Word || l[i].S != "in" || l[i+1].S != "(" || l[i+1].Kind != api.Sign {
			continue
		}
		end := i + 2
		for end < len(l) && (l[end].Kind != api.Sign || l[end].S != ")" || c.depth[end] != c.depth[i+1]) {
			end++
		}
		parts := match{coded: c}.cut(i+2, end, c.depth[i+1])
		if end == len(l) || len(parts) < 7 {
			continue
		}
		for _, p := range parts {
			if !formed(l[p[0]:p[1]]) {
				return false
			}
		}
		return formed(slices.Concat(l[:parts[0][1]], l[end:]))
	}
	return false
}

// expr tells an expression, or what stands for one that is not right, and whether it is one by its form.
func (m match) expr(from, to int) (nodes, bool) {
	e, err := expr.Parse(m.l[from:to])
	if err == api.OK {
		return e, true
	}
	return bad(err), formed(m.l[from:to])
}

// modelParse as in R1 and R3.
func modelParse(l tokens) (api.Stmt, api.Errno) {
	if len(l) > 120 {
		return api.Stmt{}, api.ErrMany
	}
	for _, t := range l {
		if _, err := lex.Print(tokens{t}); err != api.OK {
			return api.Stmt{}, err
		}
	}
	c := codedOf(l)
	for kind, form := range allForms {
		if places := form.FindStringSubmatchIndex(c.s); places != nil {
			s, ok := match{c, form, places}.stmt(kind)
			if !ok {
				return api.Stmt{}, api.ErrForm
			}
			if err := modelCheck(s); err != api.OK {
				return api.Stmt{}, err
			}
			return s, api.OK
		}
	}
	return api.Stmt{}, api.ErrForm
}

func (m match) stmt(kind int) (api.Stmt, bool) {
	s, right := api.Stmt{Kind: kind}, true
	expr := func(from, to int) nodes {
		e, ok := m.expr(from, to)
		right = right && ok
		return e
	}
	if at, _, ok := m.ends("table"); ok {
		s.Table = m.l[at].S
	}
	for _, p := range m.split("cols", 1) {
		s.Cols = append(s.Cols, m.column(p[0], p[1]))
	}
	for _, p := range m.split("rows", 0) {
		var row []nodes
		for _, q := range m.cut(p[0]+1, p[1]-1, 1) {
			row = append(row, expr(q[0], q[1]))
		}
		s.Rows = append(s.Rows, row)
	}
	for _, p := range m.split("sets", 0) {
		s.Sets = append(s.Sets, api.Assign{Name: m.l[p[0]].S, E: expr(p[0]+2, p[1])})
	}
	for _, p := range m.split("items", 0) {
		if item, ok := m.agg(p[0], p[1]); ok {
			s.Items = append(s.Items, item)
		} else {
			s.Items = append(s.Items, api.Item{E: expr(p[0], p[1])})
		}
	}
	if from, to, ok := m.ends("where"); ok {
		s.Where = expr(from, to)
	}
	for _, p := range m.split("by", 0) {
		s.By = append(s.By, m.l[p[0]].S)
	}
	for _, p := range m.split("order", 0) {
		s.Order = append(s.Order, api.Key{Col: int(m.l[p[0]].N) - 1, Desc: m.l[p[1]-1].S == "desc"})
	}
	_, _, s.Distinct = m.ends("distinct")
	if at, _, ok := m.ends("most"); ok {
		s.Lim, s.Most = true, int(m.l[at].N)
	}
	if at, _, ok := m.ends("skip"); ok {
		s.Skip = int(m.l[at].N)
	}
	return s, right
}

func (m match) column(from, to int) api.Column {
	c := api.Column{Name: m.l[from].S}
	for _, t := range m.l[from+1 : to] {
		switch t.S {
		case "not":
			c.NotNull = true
		case "unique":
			c.Unique = true
		}
		c.Kind = max(c.Kind, slices.Index([]string{"any", "integer", "text", "blob"}, t.S))
	}
	return c
}

var aggForm = regexp.MustCompile(`\A(?:(count|sum|min|max)@0 \(@1 N@1 !\)@1 |count@0 \(@1 \*@1 !\)@1 )\z`)

func (m match) agg(from, to int) (api.Item, bool) {
	l := m.l[from:to]
	if !aggForm.MatchString(codedOf(l).s) {
		return api.Item{}, false
	}
	item := api.Item{Agg: slices.Index([]string{"", "count", "sum", "min", "max"}, l[0].S)}
	if l[2].S != "*" {
		item.E = nodes{{Op: api.OpCol, Name: l[2].S}}
	}
	return item, true
}

// plain answers a command in which each empty list is nil.
func plain(s api.Stmt) api.Stmt {
	tidy(reflect.ValueOf(&s).Elem())
	return s
}

func tidy(v reflect.Value) {
	switch v.Kind() {
	case reflect.Slice:
		if v.Len() == 0 {
			v.SetZero()
			return
		}
		v.Set(reflect.AppendSlice(reflect.Zero(v.Type()), v))
		for i := range v.Len() {
			tidy(v.Index(i))
		}
	case reflect.Struct:
		for i := range v.NumField() {
			tidy(v.Field(i))
		}
	}
}

func same(a, b api.Stmt) bool { return reflect.DeepEqual(plain(a), plain(b)) }

func isZero(s api.Stmt) bool { return same(s, api.Stmt{}) }

// hold holds Check and Tokens against the model, and tells their errors; what is told is read as it was.
func hold(t *testing.T, s api.Stmt) (checked, told api.Errno) {
	t.Helper()
	checked = Check(s)
	if want := modelCheck(s); checked != want {
		t.Fatalf("Check(%v) = %d; want %d", s, checked, want)
	}
	l, told := Tokens(s)
	if checked != api.OK {
		if told != checked || l != nil {
			t.Fatalf("Tokens(%v) = %v, %d; want %d", s, l, told, checked)
		}
		return checked, told
	}
	want := modelTokens(s, func() int { return 0 })
	if len(want) > 120 {
		if told != api.ErrMany || l != nil {
			t.Fatalf("%d tokens: %v, %d", len(want), l, told)
		}
		return checked, told
	}
	if told != api.OK || !slices.Equal(l, want) {
		t.Fatalf("Tokens(%v) = %v, %d; want %v", s, l, told, want)
	}
	if back, err := Parse(l); err != api.OK || !same(back, s) {
		t.Fatalf("%v is read as %v, %d; want %v", l, back, err, s)
	}
	return checked, told
}

// holdTokens holds Parse against the model, and tells its error.
func holdTokens(t *testing.T, l tokens) api.Errno {
	t.Helper()
	got, err := Parse(l)
	if want, wantErr := modelParse(l); err != wantErr || !same(got, want) {
		t.Fatalf("Parse(%v) = %v, %d; want %v, %d", l, got, err, want, wantErr)
	}
	return err
}

var piece = regexp.MustCompile(`x?'[^']*'|[^ ]+`)

// lexed tells the tokens of a text of whatever size, with blanks between them.
func lexed(s string) tokens {
	var l tokens
	for _, one := range piece.FindAllString(s, -1) {
		some, _, err := lex.Lex(one)
		if err != api.OK {
			panic(one)
		}
		for _, t := range some {
			t.At = 0
			l = append(l, t)
		}
	}
	return l
}

func exprOf(s string) nodes {
	e, err := expr.Parse(lexed(s))
	if err != api.OK {
		panic(s)
	}
	return e
}

// drawnText of an expression.
func drawnText(d *draw, depth int) string {
	if depth == 0 {
		return d.one("a", "b", "c9", "_", "1", "0", "9223372036854775807", "null", "''", "'x'", "','", "')'", "'from'", "x''", "x'00ff'")
	}
	e := func() string { return drawnText(d, depth-1-d.below(depth)) }
	switch d.below(7) {
	case 0:
		return "( " + e() + " )"
	case 1:
		return "not ( " + e() + " )"
	case 2:
		return "- ( " + e() + " )"
	case 3:
		return "( " + e() + " ) in ( " + e() + strings.Repeat(" , "+e(), d.below(3)) + " )"
	case 4:
		return "( " + e() + " ) not between ( " + e() + " ) and ( " + e() + " )"
	case 5:
		return "( " + e() + " ) is null"
	}
	return "( " + e() + " ) " + d.one("or", "and", "=", "<>", "<=", "+", "-", "*", "%", "like", "not like") + " ( " + e() + " )"
}

func drawnExpr(d *draw) nodes { return exprOf(drawnText(d, d.below(4))) }

func drawnName(d *draw) string {
	return d.one("a", "b", "c", "t", "_", "x", "x9", "abcdefghijkl", "tables", "from_", "zz", "q", "r", "s")
}

// someNames has so many, all different.
func someNames(d *draw, n int) []string {
	var l []string
	for len(l) < n {
		if name := drawnName(d); !slices.Contains(l, name) {
			l = append(l, name)
		}
	}
	return l
}

// drawnStmt is right.
func drawnStmt(d *draw) api.Stmt {
	s := api.Stmt{Kind: 1 + d.below(9), Table: drawnName(d)}
	if d.below(3) == 0 {
		s.Kind = api.Select
	}
	switch s.Kind {
	case api.Create:
		for _, name := range someNames(d, 1+d.below(6)) {
			s.Cols = append(s.Cols, api.Column{Name: name, Kind: d.below(4), NotNull: d.coin(), Unique: d.coin()})
		}
	case api.Insert:
		for range 1 + d.below(4) {
			var row []nodes
			for range 1 + d.below(6) {
				row = append(row, drawnExpr(d))
			}
			s.Rows = append(s.Rows, row)
		}
	case api.Select:
		drawnSelect(d, &s)
	case api.Update:
		for _, name := range someNames(d, 1+d.below(6)) {
			s.Sets = append(s.Sets, api.Assign{Name: name, E: drawnExpr(d)})
		}
	case api.Begin, api.Commit, api.Rollback:
		s.Table = ""
	}
	if slices.Contains([]int{api.Select, api.Update, api.Delete}, s.Kind) && d.coin() {
		s.Where = drawnExpr(d)
	}
	return s
}

func drawnSelect(d *draw, s *api.Stmt) {
	s.Distinct = d.coin()
	if d.coin() {
		for range d.below(9) {
			s.Items = append(s.Items, api.Item{E: drawnExpr(d)})
		}
	} else {
		for range d.below(4) {
			name := drawnName(d)
			s.By = append(s.By, name)
			s.Items = append(s.Items, api.Item{E: nodes{{Op: api.OpCol, Name: name}}})
		}
		for range d.below(6) {
			item := api.Item{Agg: 1 + d.below(4), E: nodes{{Op: api.OpCol, Name: drawnName(d)}}}
			if item.Agg == api.Count && d.coin() {
				item.E = nil
			}
			s.Items = append(s.Items, item)
		}
	}
	for range d.below(9) * d.below(2) {
		s.Order = append(s.Order, api.Key{Col: d.below(8), Desc: d.coin()})
	}
	if d.coin() {
		s.Lim, s.Most, s.Skip = true, int(d.next()>>1)>>d.below(64), d.below(3)*d.below(1000)
	}
}

// roomy answers a command with spare room behind each list, filled.
func roomy(s api.Stmt) api.Stmt {
	widen(reflect.ValueOf(&s).Elem())
	return s
}

func widen(v reflect.Value) {
	switch v.Kind() {
	case reflect.Slice:
		n := v.Len()
		wide := reflect.MakeSlice(v.Type(), n+2, n+2)
		reflect.Copy(wide, v)
		for i := range n {
			widen(wide.Index(i))
			wide.Index(n).Set(wide.Index(i))
		}
		v.Set(wide.Slice(0, n))
	case reflect.Struct:
		for i := range v.NumField() {
			widen(v.Field(i))
		}
	}
}

// entire tells all that a value has, the spare room of its lists too.
func entire(v reflect.Value) []any {
	switch v.Kind() {
	case reflect.Slice:
		out := []any{v.Len()}
		for i := range v.Cap() {
			out = append(out, entire(v.Slice(0, v.Cap()).Index(i))...)
		}
		return out
	case reflect.Struct:
		var out []any
		for i := range v.NumField() {
			out = append(out, entire(v.Field(i))...)
		}
		return out
	}
	return []any{v.Interface()}
}

// memory tells where each list of a value lies, its spare room too.
func memory(v reflect.Value) [][2]uintptr {
	var out [][2]uintptr
	switch v.Kind() {
	case reflect.Slice:
		if v.Cap() > 0 {
			out = append(out, [2]uintptr{v.Pointer(), v.Pointer() + uintptr(v.Cap())*v.Type().Elem().Size()})
		}
		for i := range v.Len() {
			out = append(out, memory(v.Index(i))...)
		}
	case reflect.Struct:
		for i := range v.NumField() {
			out = append(out, memory(v.Field(i))...)
		}
	}
	return out
}

// shared tells whether two lists of an answer share memory, or one of them and one of what was handed in.
func shared(answer any, handed ...any) bool {
	own := memory(reflect.ValueOf(answer))
	all := slices.Clone(own)
	for _, x := range handed {
		all = append(all, memory(reflect.ValueOf(x))...)
	}
	for i, a := range own {
		for _, b := range all[i+1:] {
			if a[0] < b[1] && b[0] < a[1] {
				return true
			}
		}
	}
	return false
}

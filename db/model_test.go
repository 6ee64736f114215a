package db

import (
	"fmt"
	"math"
	"math/big"
	"math/bits"
	"reflect"
	"slices"
	"strings"
	"testing"

	"starling/api"
	"starling/catalog"
	"starling/eval"
	"starling/expr"
	"starling/leaf"
	"starling/lex"
	"starling/stmt"
	"starling/value"
)

// draw: numbers that are the same each time.
type draw uint64

func (d *draw) next() uint64 {
	*d = *d*6364136223846793005 + 1442695040888963407
	x := uint64(*d)
	return bits.RotateLeft64(x^x>>29, 23) * 0x9E3779B97F4A7C15
}

func (d *draw) below(n int) int { return int(d.next() >> 11 % uint64(n)) }

func (d *draw) coin() bool { return d.below(2) == 0 }

func (d *draw) one(l ...string) string { return l[d.below(len(l))] }

type rows = [][]api.Value
type values = []api.Value
type nodes = []api.Node

var null api.Value

func whole(n int64) api.Value { return api.Value{Kind: api.Int, N: n} }
func text(s string) api.Value { return api.Value{Kind: api.Text, S: s} }
func blob(s string) api.Value { return api.Value{Kind: api.Blob, S: s} }
func long(n int) string       { return strings.Repeat("w", n) }

func entry(id int64, row ...api.Value) api.Entry { return api.Entry{Id: id, Row: row} }

// exprOf reads an expression that must be one.
func exprOf(s string) nodes {
	l, _, err := lex.Lex(s)
	if err != api.OK {
		panic(fmt.Sprint(s, err))
	}
	e, err := expr.Parse(l)
	if err != api.OK {
		panic(fmt.Sprint(s, err))
	}
	return e
}

// stmtOf reads a command that must be one.
func stmtOf(s string) api.Stmt {
	c, err := stmt.Read(s)
	if err != api.OK {
		panic(fmt.Sprint(s, err))
	}
	return c
}

// plain answers what is the same, in memory of its own, with each empty list nil.
func plain[T any](x T) T {
	tidy(reflect.ValueOf(&x).Elem())
	return x
}

func tidy(v reflect.Value) {
	switch v.Kind() {
	case reflect.Slice:
		if v.Len() == 0 {
			v.SetZero()
			return
		}
		v.Set(reflect.AppendSlice(reflect.Zero(v.Type()), v))
		for i := range v.Len() {
			tidy(v.Index(i))
		}
	case reflect.Struct:
		for i := range v.NumField() {
			tidy(v.Field(i))
		}
	}
}

func same[T any](a, b T) bool { return reflect.DeepEqual(plain(a), plain(b)) }

// must gives up with an error; a model is caught by its caller.
func must(err api.Errno) {
	if err != api.OK {
		panic(err)
	}
}

// caught tells the error with which a model gave up.
func caught(do func()) (err api.Errno) {
	defer func() {
		switch e := recover().(type) {
		case nil:
		case api.Errno:
			err = e
		default:
			panic(e)
		}
	}()
	do()
	return api.OK
}

// modelCheck as in S1.
func modelCheck(d api.DB) api.Errno {
	return caught(func() {
		var l []api.Schema
		for _, t := range d.Tables {
			l = append(l, t.Schema)
		}
		must(catalog.Check(l))
		if d.Next < 1 || 1000 < d.Next {
			panic(api.ErrRange)
		}
		for _, t := range d.Tables {
			if t.Schema.Id >= d.Next {
				panic(api.ErrState)
			}
		}
		for _, t := range d.Tables {
			must(leaf.Check(t.Rows))
			for _, e := range t.Rows {
				must(catalog.Fits(t.Schema, e.Row))
			}
			must(modelTwice(t))
		}
	})
}

// modelTwice holds each row against each one before.
func modelTwice(t api.Table) api.Errno {
	for c, col := range t.Schema.Cols {
		for i := range t.Rows {
			for k := range i {
				if a, b := t.Rows[i].Row[c], t.Rows[k].Row[c]; col.Unique && a.Kind != api.Null && a == b {
					return api.ErrTwice
				}
			}
		}
	}
	return api.OK
}

func columnNames(t api.Table) []string {
	var l []string
	for _, c := range t.Schema.Cols {
		l = append(l, c.Name)
	}
	return l
}

// worth tells what an expression is worth at a row of a table.
func worth(e nodes, t api.Table, row values) api.Value {
	v, err := eval.Eval(e, columnNames(t), row)
	must(err)
	return v
}

func isTrue(where nodes, t api.Table, row values) bool {
	if len(where) == 0 {
		return true
	}
	truth, err := eval.Truth(where, columnNames(t), row)
	must(err)
	return truth == api.True
}

// place tells where a column stands, which must be there.
func place(t api.Table, name string) int {
	for i, c := range t.Schema.Cols {
		if c.Name == name {
			return i
		}
	}
	panic(api.ErrNone)
}

// modelRun as in S2 to S6.
func modelRun(d api.DB, s api.Stmt) (api.DB, rows, api.Errno) {
	var after api.DB
	var told rows
	err := caught(func() {
		must(modelCheck(d))
		must(stmt.Check(s))
		after = plain(d)
		told = modelDo(&after, s)
	})
	if err != api.OK {
		return api.DB{}, nil, err
	}
	return after, told, api.OK
}

func modelDo(d *api.DB, s api.Stmt) rows {
	if s.Kind == api.Begin || s.Kind == api.Commit || s.Kind == api.Rollback {
		panic(api.ErrState)
	}
	var others []api.Table
	var t *api.Table
	for i := range d.Tables {
		if d.Tables[i].Schema.Name == s.Table {
			t = &d.Tables[i]
		} else {
			others = append(others, d.Tables[i])
		}
	}
	switch {
	case s.Kind == api.Create && t != nil:
		panic(api.ErrTwice)
	case s.Kind == api.Create && (len(d.Tables) == 6 || d.Next == 1000):
		panic(api.ErrMany)
	case s.Kind == api.Create:
		d.Tables = append(d.Tables, api.Table{Schema: api.Schema{Id: d.Next, Name: s.Table, Cols: s.Cols}})
		d.Next++
	case t == nil:
		panic(api.ErrNone)
	case s.Kind == api.Drop:
		d.Tables = others
	case s.Kind == api.Insert:
		modelInsert(t, s)
	case s.Kind == api.Update:
		modelUpdate(t, s)
	case s.Kind == api.Delete:
		was := *t
		t.Rows = slices.DeleteFunc(slices.Clone(t.Rows), func(e api.Entry) bool { return isTrue(s.Where, was, e.Row) })
	case s.Kind == api.Select:
		return modelSelect(*t, s)
	}
	return nil
}

func modelInsert(t *api.Table, s api.Stmt) {
	for _, list := range s.Rows {
		e := entry(1)
		for _, one := range list {
			e.Row = append(e.Row, worth(one, api.Table{}, nil))
		}
		must(catalog.Fits(t.Schema, e.Row))
		if n := len(t.Rows); n > 0 {
			if n == 40 {
				panic(api.ErrMany)
			}
			if e.Id = t.Rows[n-1].Id; e.Id == math.MaxInt64 {
				panic(api.ErrOver)
			}
			e.Id++
		}
		t.Rows = append(t.Rows, e)
	}
	must(modelTwice(*t))
}

func modelUpdate(t *api.Table, s api.Stmt) {
	for _, set := range s.Sets {
		place(*t, set.Name)
	}
	for i, e := range t.Rows {
		if !isTrue(s.Where, *t, e.Row) {
			continue
		}
		new := map[string]api.Value{}
		for _, set := range s.Sets {
			new[set.Name] = worth(set.E, *t, e.Row)
		}
		var row values
		for k, c := range t.Schema.Cols {
			v, ok := new[c.Name]
			if !ok {
				v = e.Row[k]
			}
			row = append(row, v)
		}
		must(catalog.Fits(t.Schema, row))
		t.Rows[i].Row = row
	}
	must(modelTwice(*t))
}

// modelSelect as in S5; what chapter 11 says of lists of rows is done here by other code than there.
func modelSelect(t api.Table, s api.Stmt) rows {
	var l rows
	for _, e := range t.Rows {
		if isTrue(s.Where, t, e.Row) {
			l = append(l, e.Row)
		}
	}
	grouped := len(s.By) > 0
	for _, item := range s.Items {
		grouped = grouped || item.Agg > 0
	}
	switch {
	case grouped:
		l = modelGroup(t, l, s)
	case len(s.Items) > 0:
		var out rows
		for _, r := range l {
			var told values
			for _, item := range s.Items {
				told = append(told, worth(item.E, t, r))
			}
			out = append(out, told)
		}
		l = out
	}
	if s.Distinct {
		var firsts rows
		for i, r := range l {
			if !slices.ContainsFunc(l[:i], func(q values) bool { return slices.Equal(q, r) }) {
				firsts = append(firsts, r)
			}
		}
		l = firsts
	}
	l = modelSort(l, s.Order)
	if s.Lim {
		var some rows
		for i, r := range l {
			if i >= s.Skip && len(some) < s.Most {
				some = append(some, r)
			}
		}
		l = some
	}
	return l
}

// modelSort sets each row at the place that is as high as there are rows ahead of it.
func modelSort(l rows, keys []api.Key) rows {
	ahead := func(i, k int) bool {
		for _, key := range keys {
			if key.Col >= len(l[i]) {
				panic(api.ErrRange)
			}
			if c, _ := value.Compare(l[i][key.Col], l[k][key.Col]); c != 0 {
				return (c < 0) != key.Desc
			}
		}
		return i < k
	}
	// A column that is not there is told, even if rows differ ahead of it.
	for _, key := range keys {
		if len(l) > 0 && key.Col >= len(l[0]) {
			panic(api.ErrRange)
		}
	}
	out := make(rows, len(l))
	for i := range l {
		n := 0
		for k := range l {
			if ahead(k, i) {
				n++
			}
		}
		out[n] = l[i]
	}
	return out
}

func modelGroup(t api.Table, l rows, s api.Stmt) rows {
	var by []int
	for _, name := range s.By {
		by = append(by, place(t, name))
	}
	for _, item := range s.Items {
		if item.Agg > 0 && len(item.E) > 0 {
			place(t, item.E[0].Name)
		}
	}
	var parts []rows
	if len(by) == 0 {
		parts = []rows{l}
	}
	for _, r := range l {
		i := slices.IndexFunc(parts, func(part rows) bool {
			return !slices.ContainsFunc(by, func(c int) bool { return part[0][c] != r[c] })
		})
		switch {
		case len(by) == 0:
		case i < 0:
			parts = append(parts, rows{r})
		default:
			parts[i] = append(parts[i], r)
		}
	}
	var out rows
	for _, part := range parts {
		var r values
		for _, c := range by {
			r = append(r, part[0][c])
		}
		for _, item := range s.Items[len(by):] {
			r = append(r, modelAgg(t, part, item))
		}
		out = append(out, r)
	}
	return out
}

// modelAgg reckons with numbers without end.
func modelAgg(t api.Table, part rows, item api.Item) api.Value {
	if len(item.E) == 0 {
		return whole(int64(len(part)))
	}
	var l values
	for _, r := range part {
		if v := r[place(t, item.E[0].Name)]; v != null {
			l = append(l, v)
		}
	}
	if item.Agg == api.Count {
		return whole(int64(len(l)))
	}
	if len(l) == 0 {
		return null
	}
	if item.Agg == api.Sum {
		sum := new(big.Int)
		for _, v := range l {
			if v.Kind != api.Int {
				panic(api.ErrKind)
			}
			sum.Add(sum, big.NewInt(v.N))
		}
		if !sum.IsInt64() {
			panic(api.ErrOver)
		}
		return whole(sum.Int64())
	}
	sorted, _ := value.Sort(l)
	if item.Agg == api.Min {
		return sorted[0]
	}
	return sorted[len(sorted)-1]
}

// hold holds Check and Run against the model, and tells what Run answers.
func hold(t *testing.T, d api.DB, s api.Stmt) (api.DB, rows, api.Errno) {
	t.Helper()
	if got, want := Check(d), modelCheck(d); got != want {
		t.Fatalf("Check(%v) = %d; want %d", d, got, want)
	}
	after, told, err := Run(d, s)
	want, wantTold, wantErr := modelRun(d, s)
	if err != wantErr || !same(after, want) || !same(told, wantTold) {
		t.Fatalf("Run(%v, %v) = %v, %v, %d; want %v, %v, %d", d, s, after, told, err, want, wantTold, wantErr)
	}
	switch {
	case err != api.OK:
		if after.Next != 0 || len(after.Tables) != 0 || len(told) != 0 {
			t.Fatalf("beside error %d: %v, %v", err, after, told)
		}
	case Check(after) != api.OK:
		t.Fatalf("Run(%v, %v) = %v, which is not right: %d", d, s, after, Check(after))
	case s.Kind == api.Select && !same(after, d):
		t.Fatalf("by a Select %v has become %v", d, after)
	case s.Kind != api.Select && len(told) != 0:
		t.Fatalf("rows are told by %v: %v", s, told)
	}
	return after, told, err
}

// drawnValue for a column; few of them are different.
func drawnValue(d *draw, kind int) api.Value {
	if kind == 0 {
		kind = d.below(4)
	}
	switch kind {
	case api.Int:
		if d.below(8) == 0 {
			return whole([]int64{math.MaxInt64, math.MinInt64, -1, 1 << 62}[d.below(4)])
		}
		return whole(int64(d.below(9)))
	case api.Text:
		return text(d.one("", "a", "b", "ab", "wren", "A", "\x00", long(16)))
	case api.Blob:
		return blob(d.one("", "a", "b", "\x00", "\xff\x00", long(16)))
	}
	return null
}

// drawnTable is right, mostly with few rows, or full, or nearly so.
func drawnTable(d *draw, id int, name string) api.Table {
	t := api.Table{Schema: api.Schema{Id: id, Name: name}}
	for i := range 1 + d.below(4) {
		t.Schema.Cols = append(t.Schema.Cols, api.Column{Name: string(rune('a' + i)), Kind: d.below(4) * d.below(3) % 4, NotNull: d.below(4) == 0, Unique: d.below(4) == 0})
	}
	count, step := d.below(8), 1+d.below(3)
	if d.below(4) == 0 {
		count = 36 + d.below(5)
	}
	last := int64(0)
	if d.below(6) == 0 {
		last = math.MaxInt64 - int64(count*step) - int64(d.below(4))
	}
	for range count * 4 {
		var row values
		for i, c := range t.Schema.Cols {
			v := drawnValue(d, c.Kind)
			if count > 8 && c.Unique && (c.Kind == 0 || c.Kind == api.Int) {
				v = whole(int64(len(t.Rows)*3 - i))
			}
			if d.below(4) == 0 && !c.NotNull {
				v = null
			}
			row = append(row, v)
		}
		more := t
		more.Rows = append(t.Rows, entry(last+1+int64(d.below(step)), row...))
		if len(t.Rows) < count && catalog.Fits(t.Schema, row) == api.OK && modelTwice(more) == api.OK {
			t = more
			last = t.Rows[len(t.Rows)-1].Id
		}
	}
	return t
}

// drawnDB is right.
func drawnDB(d *draw) api.DB {
	out := api.DB{Next: 1 + d.below(3)}
	for i := range d.below(7) {
		out.Tables = append(out.Tables, drawnTable(d, out.Next, string(rune('t'+i))))
		out.Next += 1 + d.below(3)
	}
	if d.below(6) == 0 {
		out.Next = 999 + d.below(2)
	}
	return out
}

// drawnName tells a column of a table, mostly.
func drawnName(d *draw, t api.Table) string {
	if len(t.Schema.Cols) > 0 && d.below(16) > 0 {
		return t.Schema.Cols[d.below(len(t.Schema.Cols))].Name
	}
	return d.one("a", "b", "c", "d", "z")
}

// drawnExpr tells of columns of a table, mostly.
func drawnExpr(d *draw, t api.Table, depth int) string {
	if depth == 0 {
		return d.one(drawnName(d, t), drawnName(d, t), d.one("0", "1", "2", "3", "7"), d.one("null", "'a'", "'wren'", "''", "x'61'", "0", "9223372036854775807"))
	}
	e := func() string { return "(" + drawnExpr(d, t, depth-1-d.below(depth)) + ")" }
	switch d.below(9) {
	case 0:
		return e() + d.one(" + ", " - ", " * ", " / ", " % ") + e()
	case 1:
		return e() + d.one(" like ", " not like ") + d.one("'%'", "'a%'", "'_'", "'%r%'", "null")
	case 2:
		return e() + d.one(" in (", " not in (") + e() + ", " + e() + ")"
	case 3:
		return e() + d.one(" between ", " not between ") + e() + " and " + e()
	case 4:
		return e() + d.one(" is null", " is not null")
	case 5:
		return d.one("not ", "- ") + e()
	case 6:
		return e() + " " + d.one("and", "or") + " " + e()
	}
	return e() + d.one(" = ", " <> ", " < ", " <= ", " > ", " >= ") + e()
}

func drawnWhere(d *draw, t api.Table) nodes {
	if d.below(3) == 0 {
		return nil
	}
	return exprOf(drawnExpr(d, t, 1+d.below(3)))
}

// literal tells a value as an expression.
func literal(v api.Value) nodes {
	switch {
	case v.N == math.MinInt64:
		return exprOf("- 9223372036854775807 - 1")
	case v.N < 0:
		return nodes{{Op: api.OpLit, V: whole(-v.N)}, {Op: api.OpNeg, Kids: 1}}
	}
	return nodes{{Op: api.OpLit, V: v}}
}

// drawnStmt is right, and tells of the tables, mostly.
func drawnStmt(d *draw, tables api.DB) api.Stmt {
	often := []int{api.Create, api.Drop, api.Insert, api.Insert, api.Select, api.Select, api.Select, api.Select, api.Update, api.Update, api.Update, api.Delete}
	s := api.Stmt{Kind: often[d.below(len(often))], Table: d.one("t", "u", "z")}
	t := api.Table{}
	if len(tables.Tables) > 0 && d.below(8) > 0 {
		t = tables.Tables[d.below(len(tables.Tables))]
		s.Table = t.Schema.Name
	}
	switch s.Kind {
	case api.Create:
		s.Table = d.one("t", "u", "v", "w", "x", "y", "z")
		s.Cols = drawnTable(d, 1, "t").Schema.Cols
	case api.Insert:
		for range 1 + d.below(4) {
			var list []nodes
			for i := range max(1, len(t.Schema.Cols)-d.below(16)/15) {
				v := drawnValue(d, 0)
				if i < len(t.Schema.Cols) && d.below(16) > 0 {
					v = drawnValue(d, t.Schema.Cols[i].Kind)
				}
				list = append(list, literal(v))
				if d.below(16) == 0 {
					list[i] = exprOf(drawnExpr(d, t, 1))
				}
			}
			s.Rows = append(s.Rows, list)
		}
	case api.Update:
		for range 1 + d.below(3) {
			n := drawnName(d, t)
			if !slices.ContainsFunc(s.Sets, func(set api.Assign) bool { return set.Name == n }) {
				s.Sets = append(s.Sets, api.Assign{Name: n, E: exprOf(drawnExpr(d, t, d.below(2)))})
			}
		}
		s.Where = drawnWhere(d, t)
	case api.Delete:
		s.Where = drawnWhere(d, t)
	case api.Select:
		drawnSelect(d, &s, t)
	}
	return s
}

func drawnSelect(d *draw, s *api.Stmt, t api.Table) {
	s.Where, s.Distinct = drawnWhere(d, t), d.coin()
	if d.coin() {
		for range d.below(4) {
			s.Items = append(s.Items, api.Item{E: exprOf(drawnExpr(d, t, d.below(2)))})
		}
	} else {
		for range d.below(3) {
			s.By = append(s.By, drawnName(d, t))
			s.Items = append(s.Items, api.Item{E: exprOf(s.By[len(s.By)-1])})
		}
		for range d.below(4) {
			item := api.Item{Agg: 1 + d.below(4), E: exprOf(drawnName(d, t))}
			if item.Agg == api.Count && d.coin() {
				item.E = nil
			}
			s.Items = append(s.Items, item)
		}
	}
	for range d.below(3) {
		s.Order = append(s.Order, api.Key{Col: d.below(3), Desc: d.coin()})
	}
	if d.coin() {
		s.Lim, s.Most, s.Skip = true, d.below(6), d.below(3)
	}
}

// spoil makes something of tables wrong, mostly.
func spoil(d *draw, x api.DB) api.DB {
	x = plain(x)
	if d.below(4) == 0 || len(x.Tables) == 0 {
		x.Next = []int{0, -1, 1, 2, 1000, 1001, math.MaxInt, math.MinInt}[d.below(8)]
		return x
	}
	t := &x.Tables[d.below(len(x.Tables))]
	if d.below(3) == 0 || len(t.Rows) == 0 {
		switch d.below(4) {
		case 0:
			t.Schema.Id = d.below(5) - 1
		case 1:
			t.Schema.Name = d.one("", "t", "u", "T", "table")
		case 2:
			t.Schema.Cols[0] = api.Column{Name: d.one("a", "b", ""), Kind: d.below(6) - 1, NotNull: d.coin(), Unique: true}
		case 3:
			x.Tables = append(x.Tables, drawnTable(d, x.Next, "new"), drawnTable(d, x.Next+1, "newer"))
		}
		return x
	}
	e := &t.Rows[d.below(len(t.Rows))]
	switch d.below(6) {
	case 0:
		e.Id = []int64{0, -1, 1, 2, math.MaxInt64}[d.below(5)]
	case 1:
		e.Row = t.Rows[d.below(len(t.Rows))].Row
	case 2:
		e.Row[d.below(len(e.Row))] = []api.Value{{Kind: 4}, {N: 1}, text(long(17)), {Kind: api.Text, N: 1}, null, whole(1), text("a")}[d.below(7)]
	case 3:
		e.Row = append(e.Row, null)[d.below(2):]
	case 4:
		t.Schema.Cols[0].NotNull, t.Schema.Cols[0].Unique = true, true
	case 5:
		for id := e.Id + 1000; len(t.Rows) < 41; id++ {
			t.Rows = append(t.Rows, entry(id, make(values, len(t.Schema.Cols))...))
		}
	}
	return x
}

// roomy answers what is the same, with spare room behind each list, filled.
func roomy[T any](x T) T {
	widen(reflect.ValueOf(&x).Elem())
	return x
}

func widen(v reflect.Value) {
	switch v.Kind() {
	case reflect.Slice:
		n := v.Len()
		wide := reflect.MakeSlice(v.Type(), n+2, n+2)
		reflect.Copy(wide, v)
		for i := range n {
			widen(wide.Index(i))
			wide.Index(n).Set(wide.Index(i))
		}
		v.Set(wide.Slice(0, n))
	case reflect.Struct:
		for i := range v.NumField() {
			widen(v.Field(i))
		}
	}
}

// entire tells all that a value has, the spare room of its lists too.
func entire(v reflect.Value) []any {
	switch v.Kind() {
	case reflect.Slice:
		out := []any{v.Len()}
		for i := range v.Cap() {
			out = append(out, entire(v.Slice(0, v.Cap()).Index(i))...)
		}
		return out
	case reflect.Struct:
		var out []any
		for i := range v.NumField() {
			out = append(out, entire(v.Field(i))...)
		}
		return out
	}
	return []any{v.Interface()}
}

// memory tells where each list of a value lies, its spare room too.
func memory(v reflect.Value) [][2]uintptr {
	var out [][2]uintptr
	switch v.Kind() {
	case reflect.Slice:
		if v.Cap() > 0 {
			out = append(out, [2]uintptr{v.Pointer(), v.Pointer() + uintptr(v.Cap())*v.Type().Elem().Size()})
		}
		for i := range v.Len() {
			out = append(out, memory(v.Index(i))...)
		}
	case reflect.Struct:
		for i := range v.NumField() {
			out = append(out, memory(v.Field(i))...)
		}
	}
	return out
}

// shared tells whether two lists of an answer share memory, or one of them and one of what was handed in.
func shared(answer any, handed ...any) bool {
	own := memory(reflect.ValueOf(answer))
	all := slices.Clone(own)
	for _, x := range handed {
		all = append(all, memory(reflect.ValueOf(x))...)
	}
	for i, a := range own {
		for _, b := range all[i+1:] {
			if a[0] < b[1] && b[0] < a[1] {
				return true
			}
		}
	}
	return false
}

// scribble writes all over what a value has, the spare room of its lists too.
func scribble(v reflect.Value) {
	switch v.Kind() {
	case reflect.Slice:
		for i := range v.Cap() {
			one := v.Slice(0, v.Cap()).Index(i)
			scribble(one)
			one.SetZero()
		}
	case reflect.Struct:
		for i := range v.NumField() {
			scribble(v.Field(i))
		}
	}
}

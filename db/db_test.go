package db

import (
	"fmt"
	"math"
	"reflect"
	"slices"
	"strings"
	"sync"
	"testing"

	"starling/api"
	"starling/value"
)

// show tells rows as literals, a blank between two values, a ; between two rows.
func show(l rows) string {
	var all []string
	for _, r := range l {
		var one []string
		for _, v := range r {
			s, err := value.Show(v)
			if err != api.OK {
				s = fmt.Sprint(v)
			}
			one = append(one, s)
		}
		all = append(all, strings.Join(one, " "))
	}
	return strings.Join(all, "; ")
}

// showTable tells the rows of the table of a name, each behind its Id.
func showTable(d api.DB, name string) string {
	for _, t := range d.Tables {
		if t.Schema.Name == name {
			var all []string
			for _, e := range t.Rows {
				all = append(all, fmt.Sprint(e.Id, ": ", show(rows{e.Row})))
			}
			return strings.Join(all, "; ")
		}
	}
	return "none"
}

// told runs the text of a command, and tells the number of the error, the rows of a Select, or those of its table.
func told(t *testing.T, d api.DB, s string) (api.DB, string) {
	t.Helper()
	c := stmtOf(s)
	after, l, err := hold(t, d, c)
	switch {
	case err != api.OK:
		return d, fmt.Sprint("error ", int(err))
	case c.Kind == api.Select:
		return after, show(l)
	}
	return after, showTable(after, c.Table)
}

// made runs commands one behind the other, all of which must be right.
func made(t *testing.T, l ...string) api.DB {
	t.Helper()
	d := api.DB{Next: 1}
	for _, s := range l {
		after, said := told(t, d, s)
		if strings.HasPrefix(said, "error") {
			t.Fatalf("%s: %s", s, said)
		}
		d = after
	}
	return d
}

// birds has two tables.
func birds(t *testing.T) api.DB {
	t.Helper()
	return made(t, "create table t (a integer not null unique, b text, c)", "create table u (a, b unique)",
		"insert into t values (1, 'wren', null), (2, 'rook', 5), (3, 'tit', 7)", "insert into u values (1, 1), (null, null), (2, null)")
}

// asks runs each command on the same tables, and holds what it tells against what is written beside it.
func asks(t *testing.T, d api.DB, l [][2]string) {
	t.Helper()
	for _, c := range l {
		if _, said := told(t, d, c[0]); said != c[1] {
			t.Errorf("%s: %s; want %s", c[0], said, c[1])
		}
	}
}

// S2, S3, S5: the document's example.
func TestExample(t *testing.T) {
	d := made(t, "create table birds (id integer not null unique, name text)", "insert into birds values (1, 'wren'), (2, 'rook')")
	asks(t, d, [][2]string{{"select name from birds where id > 1", "'rook'"}})
	want := api.DB{Next: 2, Tables: []api.Table{{
		Schema: api.Schema{Id: 1, Name: "birds", Cols: []api.Column{{Name: "id", Kind: api.Int, NotNull: true, Unique: true}, {Name: "name", Kind: api.Text}}},
		Rows:   []api.Entry{entry(1, whole(1), text("wren")), entry(2, whole(2), text("rook"))},
	}}}
	if !same(d, want) {
		t.Errorf("%v; want %v", d, want)
	}
}

func form(id int, name string, cols ...api.Column) api.Schema {
	return api.Schema{Id: id, Name: name, Cols: cols}
}

// tablesOf has so many tables without rows.
func tablesOf(n int) []api.Table {
	var l []api.Table
	for i := range n {
		l = append(l, api.Table{Schema: form(i+1, fmt.Sprint("t", i), api.Column{Name: "a"})})
	}
	return l
}

// rowsOf has so many rows of so many Nulls.
func rowsOf(n, width int) []api.Entry {
	var l []api.Entry
	for i := range n {
		l = append(l, entry(int64(i+1), make(values, width)...))
	}
	return l
}

// S1: what is wrong with forms and Next, in this order, ahead of what is wrong with rows.
func TestCheckForms(t *testing.T) {
	a := api.Column{Name: "a"}
	with := func(next int, l ...api.Schema) api.DB {
		d := api.DB{Next: next}
		for _, s := range l {
			d.Tables = append(d.Tables, api.Table{Schema: s})
		}
		return d
	}
	for i, c := range []struct {
		d    api.DB
		want api.Errno
	}{
		{with(0), api.ErrRange}, {with(1), 0}, {with(2), 0}, {with(999), 0}, {with(1000), 0}, {with(1001), api.ErrRange}, {with(-1), api.ErrRange}, {with(math.MaxInt), api.ErrRange}, {with(math.MinInt), api.ErrRange}, {api.DB{Next: 1, Tables: []api.Table{}}, 0},
		{with(1, form(1, "t", a)), api.ErrState}, {with(2, form(1, "t", a)), 0}, {with(1000, form(1, "t", a)), 0}, {with(1001, form(1, "t", a)), api.ErrRange}, {with(0, form(1, "t", a)), api.ErrRange}, {with(5, form(6, "t", a)), api.ErrState}, {with(6, form(6, "t", a)), api.ErrState}, {with(7, form(6, "t", a)), 0}, {with(999, form(999, "t", a)), api.ErrState}, {with(1000, form(999, "t", a)), 0}, {with(4, form(1, "t", a), form(2, "u", a)), 0}, {with(2, form(1, "t", a), form(2, "u", a)), api.ErrState}, {with(3, form(1, "t", a), form(9, "u", a)), api.ErrState},
		{api.DB{Next: 7, Tables: tablesOf(6)}, 0}, {api.DB{Next: 6, Tables: tablesOf(6)}, api.ErrState}, {api.DB{Next: 8, Tables: tablesOf(7)}, api.ErrMany}, {api.DB{Next: 0, Tables: tablesOf(7)}, api.ErrMany}, {api.DB{Tables: make([]api.Table, 1<<16)}, api.ErrMany},
		{with(0, form(0, "t", a)), api.ErrRange}, {with(0, form(1000, "t", a)), api.ErrRange}, {with(0, form(2, "t", a), form(2, "u", a)), api.ErrState}, {with(0, form(2, "t", a), form(1, "u", a)), api.ErrState}, {with(0, form(1, "T", a)), api.ErrForm}, {with(0, form(1, "t")), api.ErrForm}, {with(0, form(1, "t", make([]api.Column, 7)...)), api.ErrMany}, {with(0, form(1, "t", api.Column{Name: "a", Kind: 4})), api.ErrKind}, {with(0, form(1, "t", a, a)), api.ErrTwice}, {with(0, form(1, "t", a), form(2, "t", a)), api.ErrTwice}, {with(9, form(1, "t", a), form(2, "t", a)), api.ErrTwice}, {with(9, form(1, "t", a), form(2, "u")), api.ErrForm},
	} {
		hold(t, c.d, stmtOf("create table n (a)"))
		if got := Check(c.d); got != c.want {
			t.Errorf("%d: Check(%v) = %d; want %d", i, c.d, got, c.want)
		}
		for k := range min(len(c.d.Tables), 9) {
			spoilt := plain(c.d)
			spoilt.Tables[k].Rows = rowsOf(41, 9)
			if got := Check(spoilt); c.want != api.OK && got != c.want || got == api.OK {
				t.Errorf("%d: with wrong rows: %d; want %d", i, got, c.want)
			}
		}
	}
}

// S1: what is wrong with rows: all of chapter 13, then all of Fits, then what is there twice, table by table.
func TestCheckRows(t *testing.T) {
	s := form(3, "t", api.Column{Name: "a", Unique: true}, api.Column{Name: "b", Kind: api.Int}, api.Column{Name: "c", Unique: true})
	bare := form(4, "u", api.Column{Name: "a", Kind: api.Text, NotNull: true})
	full := rowsOf(41, 3)
	for i := range full {
		full[i].Row = values{whole(int64(i)), whole(7), null}
	}
	ok, wrong := whole(1), api.Value{Kind: 9}
	list := func(l ...api.Entry) []api.Entry { return l }
	for i, c := range []struct {
		first, second []api.Entry
		want          api.Errno
	}{
		{nil, nil, 0}, {full[:1], nil, 0}, {full[:39], nil, 0}, {full[:40], nil, 0}, {full, nil, api.ErrMany}, {rowsOf(40, 3), nil, 0}, {rowsOf(41, 9), nil, api.ErrMany}, {list(entry(math.MaxInt64, null, null, null)), nil, 0},
		{list(entry(0, null, null, null)), nil, api.ErrRange}, {list(entry(-1, null, null, null)), nil, api.ErrRange}, {list(entry(math.MinInt64)), nil, api.ErrRange}, {list(entry(2, null, null, null), entry(2, null, null, null)), nil, api.ErrState}, {list(entry(2, null, null, null), entry(1, null, null, null)), nil, api.ErrState}, {list(entry(1, make(values, 9)...)), nil, api.ErrMany}, {list(entry(1, make(values, 8)...)), nil, api.ErrForm}, {list(entry(1, make(values, 4)...)), nil, api.ErrForm}, {list(entry(1, null, null)), nil, api.ErrForm}, {list(entry(1)), nil, api.ErrForm}, {list(entry(1, null, wrong)), nil, api.ErrKind}, {list(entry(1, null, null, text(long(17)))), nil, api.ErrMany}, {list(entry(1, null, text("1"), null)), nil, api.ErrKind},
		{list(entry(1), entry(1)), nil, api.ErrState}, {list(entry(1), entry(2, wrong)), nil, api.ErrKind}, {list(entry(1, ok, text("x"), ok), entry(2, ok)), nil, api.ErrKind}, {list(entry(1, ok), entry(2, ok, text("x"), ok)), nil, api.ErrForm},
		{list(entry(1, ok, ok, null), entry(2, ok, ok, null)), nil, api.ErrTwice}, {list(entry(1, null, ok, ok), entry(2, null, ok, ok)), nil, api.ErrTwice}, {list(entry(1, ok, ok, ok), entry(2, ok, ok, ok)), nil, api.ErrTwice}, {list(entry(1, null, ok, null), entry(2, null, ok, null), entry(3, null, ok, null)), nil, 0}, {list(entry(1, ok, ok, whole(2)), entry(2, whole(2), ok, ok)), nil, 0}, {list(entry(1, ok, ok, null), entry(2, null, ok, null), entry(3, whole(2), ok, null), entry(9, ok, ok, null)), nil, api.ErrTwice},
		{list(entry(1, whole(0), ok, text("")), entry(2, null, ok, blob("")), entry(3, text("0"), null, null), entry(4, blob("0"), null, whole(0)), entry(5, text(""), null, text("0"))), nil, 0}, {list(entry(1, text("ab"), ok, null), entry(2, text("a"), ok, null), entry(3, text("ab"), ok, null)), nil, api.ErrTwice}, {list(entry(1, blob("\x00"), ok, null), entry(2, text("\x00"), ok, null), entry(3, blob("\x00\x00"), ok, null)), nil, 0}, {list(entry(1, whole(math.MinInt64), ok, null), entry(2, whole(math.MinInt64), ok, null)), nil, api.ErrTwice},
		{list(entry(1, ok, ok, null), entry(2, ok, ok, null), entry(3, ok, text("x"), null)), nil, api.ErrKind}, {list(entry(1, ok, ok, null), entry(2, ok, ok, null), entry(3, ok)), nil, api.ErrForm}, {list(entry(1, ok, ok, null), entry(2, ok, ok, null), entry(3, wrong)), nil, api.ErrKind}, {list(entry(1, ok, ok, null), entry(2, ok, ok, null), entry(2, ok)), nil, api.ErrState},
		{nil, list(entry(1, text("x"))), 0}, {nil, list(entry(1, text("x")), entry(2, text("x"))), 0}, {nil, list(entry(1, null)), api.ErrNone}, {nil, list(entry(1, ok)), api.ErrKind}, {full[:2], list(entry(1, null)), api.ErrNone}, {nil, rowsOf(41, 1), api.ErrMany}, {nil, rowsOf(40, 1), api.ErrNone}, {list(entry(1, ok, ok, null), entry(2, ok, ok, null)), rowsOf(41, 1), api.ErrTwice}, {list(entry(1, ok)), rowsOf(41, 1), api.ErrForm}, {list(entry(0)), rowsOf(41, 1), api.ErrRange}, {full, list(entry(0)), api.ErrMany}, {full[:1], list(entry(0)), api.ErrRange},
	} {
		d := api.DB{Next: 5, Tables: []api.Table{{Schema: s, Rows: c.first}, {Schema: bare, Rows: c.second}}}
		if got := Check(d); got != c.want {
			t.Errorf("%d: Check(%v) = %d; want %d", i, d, got, c.want)
		}
		_, _, err := hold(t, d, stmtOf("select * from u"))
		if err != c.want {
			t.Errorf("%d: Run(%v): %d; want %d", i, d, err, c.want)
		}
	}
}

// S2, S6: of what is wrong the tables come first, then the command, then what the command does not find; nothing is told beside an error.
func TestOrder(t *testing.T) {
	wrongDB, right := api.DB{Next: 0}, birds(t)
	of := func(kind int, table string) api.Stmt { return api.Stmt{Kind: kind, Table: table} }
	deep := exprOf("not not not not not not not not not not not 1")
	deep = append(deep, api.Node{Op: api.OpNot, Kids: 1})
	for i, c := range []struct {
		d    api.DB
		s    api.Stmt
		want api.Errno
	}{
		{wrongDB, api.Stmt{}, api.ErrRange}, {wrongDB, of(api.Begin, ""), api.ErrRange}, {wrongDB, of(api.Drop, "z"), api.ErrRange}, {wrongDB, of(api.Drop, ""), api.ErrRange}, {api.DB{Next: 1, Tables: tablesOf(1)}, api.Stmt{}, api.ErrState},
		{right, api.Stmt{}, api.ErrKind}, {right, of(10, "t"), api.ErrKind}, {right, of(-1, "t"), api.ErrKind}, {right, of(math.MaxInt, ""), api.ErrKind},
		{right, of(api.Begin, ""), api.ErrState}, {right, of(api.Commit, ""), api.ErrState}, {right, of(api.Rollback, ""), api.ErrState}, {api.DB{Next: 1}, of(api.Begin, ""), api.ErrState}, {right, of(api.Begin, "t"), api.ErrForm}, {right, of(api.Commit, "z"), api.ErrForm}, {right, api.Stmt{Kind: api.Rollback, Lim: true}, api.ErrForm},
		{right, of(api.Drop, "z"), api.ErrNone}, {right, of(api.Drop, "T"), api.ErrForm}, {right, of(api.Drop, ""), api.ErrForm}, {right, of(api.Drop, "t"), 0}, {right, of(api.Select, "z"), api.ErrNone}, {right, of(api.Delete, "z"), api.ErrNone}, {right, of(api.Insert, "z"), api.ErrForm}, {right, of(api.Update, "z"), api.ErrForm}, {right, of(api.Create, "t"), api.ErrForm},
		{right, api.Stmt{Kind: api.Delete, Table: "z", Where: deep}, api.ErrDeep}, {right, api.Stmt{Kind: api.Select, Table: "z", Where: deep}, api.ErrDeep}, {right, api.Stmt{Kind: api.Select, Table: "z", Most: -1}, api.ErrRange}, {right, api.Stmt{Kind: api.Select, Table: "t", Items: make([]api.Item, 9)}, api.ErrMany}, {right, api.Stmt{Kind: api.Create, Table: "t", Cols: make([]api.Column, 7)}, api.ErrMany}, {right, api.Stmt{Kind: api.Create, Table: "t", Cols: []api.Column{{Name: "a"}, {Name: "a"}}}, api.ErrTwice}, {right, api.Stmt{Kind: api.Create, Table: "t", Cols: []api.Column{{Name: "a", Kind: 4}}}, api.ErrKind}, {right, api.Stmt{Kind: api.Update, Table: "z", Sets: []api.Assign{{Name: "a", E: deep}}}, api.ErrDeep}, {right, api.Stmt{Kind: api.Insert, Table: "z", Rows: make([][]nodes, 5)}, api.ErrMany},
	} {
		if _, _, err := hold(t, c.d, c.s); err != c.want {
			t.Errorf("%d: Run(.., %v): %d; want %d", i, c.s, err, c.want)
		}
	}
	asks(t, right, [][2]string{
		{"insert into z values (1 / 0)", "error 5"}, {"update z set a = 1", "error 5"}, {"delete from z where 1 / 0", "error 5"}, {"select sum(a) from z", "error 5"}, {"drop table z", "error 5"}, {"create table t (z)", "error 6"},
	})
	asks(t, api.DB{Next: 1}, [][2]string{
		{"insert into t values (1)", "error 5"}, {"update t set a = 1", "error 5"}, {"delete from t", "error 5"}, {"select * from t", "error 5"}, {"drop table t", "error 5"}, {"create table t (z)", ""},
	})
}

// S2: tables come behind the others, up to MaxTables and MaxId; one that goes leaves Next as it was.
func TestCreateAndDrop(t *testing.T) {
	d := api.DB{Next: 1}
	for i, name := range []string{"f", "e", "d", "c", "b", "a"} {
		d, _ = told(t, d, "create table "+name+" (x integer, y not null unique)")
		want := form(i+1, name, api.Column{Name: "x", Kind: api.Int}, api.Column{Name: "y", NotNull: true, Unique: true})
		if last := d.Tables[len(d.Tables)-1]; d.Next != i+2 || len(d.Tables) != i+1 || !same(last, api.Table{Schema: want}) {
			t.Fatalf("%v; want %v", d, want)
		}
	}
	asks(t, d, [][2]string{{"create table g (x)", "error 2"}, {"create table f (x)", "error 6"}, {"create table a (x)", "error 6"}, {"drop table g", "error 5"}})
	d, _ = told(t, d, "insert into a values (1, 2)")
	less, _ := told(t, d, "drop table d")
	if less.Next != 7 || !same(less.Tables, append(slices.Clone(d.Tables[:2]), d.Tables[3:]...)) {
		t.Errorf("%v without d is %v", d, less)
	}
	more, _ := told(t, less, "create table d (z blob)")
	if more.Next != 8 || !same(more.Tables, append(slices.Clone(less.Tables), api.Table{Schema: form(7, "d", api.Column{Name: "z", Kind: api.Blob})})) {
		t.Errorf("%v and d once more is %v", less, more)
	}
	for _, name := range []string{"f", "a", "e", "c", "b"} {
		less, _ = told(t, less, "drop table "+name)
	}
	if less.Next != 7 || len(less.Tables) != 0 {
		t.Errorf("%v", less)
	}
	if last, _ := told(t, less, "create table d (z)"); last.Next != 8 || len(last.Tables) != 1 || last.Tables[0].Schema.Id != 7 {
		t.Errorf("%v", last)
	}
	for next, want := range map[int]string{998: "", 999: "", 1000: "error 2"} {
		after, said := told(t, api.DB{Next: next}, "create table t (a)")
		if said != want || want == "" && (after.Next != next+1 || after.Tables[0].Schema.Id != next) {
			t.Errorf("Next %d: %v, %s", next, after, said)
		}
	}
	full := api.DB{Next: 1000, Tables: []api.Table{{Schema: form(999, "t", api.Column{Name: "a"})}}}
	asks(t, full, [][2]string{{"create table t (a)", "error 6"}, {"create table u (a)", "error 2"}, {"drop table t", "none"}, {"insert into t values (1)", "1: 1"}})
}

// S3: rows come one by one: what they are worth, what fits, how many there are, which Id they have; what is there twice comes last.
func TestInsert(t *testing.T) {
	asks(t, birds(t), [][2]string{
		{"insert into t values (4, 'x', 1 + 2 * 3)", "1: 1 'wren' NULL; 2: 2 'rook' 5; 3: 3 'tit' 7; 4: 4 'x' 7"},
		{"insert into u values (5, 2), (5, 3), (5, null), (5, '2')", "1: 1 1; 2: NULL NULL; 3: 2 NULL; 4: 5 2; 5: 5 3; 6: 5 NULL; 7: 5 '2'"},
		{"insert into u values (1 = 1, 1 > null), (not 1, 'a' like '_')", "error 6"}, {"insert into u values (1 = 2, 1 > null), (- 3, null)", "1: 1 1; 2: NULL NULL; 3: 2 NULL; 4: 0 NULL; 5: -3 NULL"},
		{"insert into t values (4, b, 1)", "error 5"}, {"insert into t values (a, 'x', 1)", "error 5"}, {"insert into t values (4, 'x', 1 / 0)", "error 9"}, {"insert into t values (4, 'x', 9223372036854775807 + 1)", "error 8"}, {"insert into t values (4, 'x', 'x' + 1)", "error 7"}, {"insert into t values (4, 'x' like '\\', 1)", "error 1"},
		{"insert into t values (4, 'x')", "error 1"}, {"insert into t values (4, 'x', 1, 1)", "error 1"}, {"insert into t values (4)", "error 1"}, {"insert into t values (null, 'x', 1)", "error 5"}, {"insert into t values ('4', 'x', 1)", "error 7"}, {"insert into t values (4, 5, 1)", "error 7"}, {"insert into t values (4, x'78', 1)", "error 7"},
		{"insert into t values (1, 'x', 1)", "error 6"}, {"insert into t values (4, null, null), (4, null, null)", "error 6"}, {"insert into t values (4, null, null), (5, null, null), (4, null, null)", "error 6"}, {"insert into u values (9, 1)", "error 6"}, {"insert into u values (9, 8), (9, 8)", "error 6"},
		// Of what is wrong with one row, what it is worth comes ahead of whether it fits.
		{"insert into t values (null, 1, 1 / 0)", "error 9"}, {"insert into t values (1 / 0)", "error 9"}, {"insert into t values (4, 1 / 0, b)", "error 9"}, {"insert into t values (4, b, 1 / 0)", "error 5"}, {"insert into t values (null, 5, 1)", "error 5"},
		// The first row's error comes first; twice comes behind all.
		{"insert into t values (null, 'x', 1), (4, 'x', 1 / 0)", "error 5"}, {"insert into t values (4, 'x', 1 / 0), (null, 'x', 1)", "error 9"}, {"insert into t values (1, 'x', 1), (4, 'x')", "error 1"}, {"insert into t values (4, 'x', 1), (4, 'x', 1), (5, 5, 5)", "error 7"}, {"insert into t values (4, 'x', 1), (5, 'x', 1), (6, 'x', 1), (7, 'x')", "error 1"},
	})
	d := made(t, "create table t (a)", "insert into t values (1), (2), (3)", "delete from t where a > 1")
	asks(t, d, [][2]string{{"insert into t values (9)", "1: 1; 2: 9"}})
	d, _ = told(t, d, "delete from t")
	asks(t, d, [][2]string{{"insert into t values (9), (8)", "1: 9; 2: 8"}})
}

// bigTable has so many rows, the last one of an Id.
func bigTable(n int, last int64) api.DB {
	t := api.Table{Schema: form(1, "t", api.Column{Name: "a", Unique: true}, api.Column{Name: "b", Kind: api.Int})}
	for i := range n {
		t.Rows = append(t.Rows, entry(last-int64(n-1-i), whole(int64(i)), null))
	}
	return api.DB{Next: 2, Tables: []api.Table{t}}
}

// S3: tables at their limits and beyond them.
func TestInsertLimits(t *testing.T) {
	row := func(n int) string {
		return "insert into t values " + strings.TrimSuffix(strings.Repeat("(null, 1), ", n), ", ")
	}
	for _, c := range []struct {
		rows, more int
		last       int64
		want       api.Errno
	}{
		{0, 1, 0, 0}, {0, 4, 0, 0}, {36, 4, 36, 0}, {37, 4, 37, api.ErrMany}, {39, 1, 39, 0}, {39, 2, 39, api.ErrMany}, {40, 1, 40, api.ErrMany}, {40, 1, math.MaxInt64, api.ErrMany}, {38, 2, math.MaxInt64 - 2, 0}, {39, 2, math.MaxInt64 - 1, api.ErrMany}, {38, 2, math.MaxInt64 - 1, api.ErrOver}, {1, 1, math.MaxInt64, api.ErrOver}, {1, 1, math.MaxInt64 - 1, 0}, {1, 2, math.MaxInt64 - 1, api.ErrOver}, {1, 4, math.MaxInt64 - 4, 0}, {39, 1, math.MaxInt64, api.ErrOver},
	} {
		after, _, err := hold(t, bigTable(c.rows, c.last), stmtOf(row(c.more)))
		if err != c.want {
			t.Errorf("%d rows up to %d, and %d more: %d; want %d", c.rows, c.last, c.more, err, c.want)
			continue
		}
		if c.want == api.OK {
			l := after.Tables[0].Rows
			if last := l[len(l)-1].Id; len(l) != c.rows+c.more || last != c.last+int64(c.more) {
				t.Errorf("%d rows up to %d, and %d more: %d up to %d", c.rows, c.last, c.more, len(l), last)
			}
		}
	}
	asks(t, bigTable(40, 40), [][2]string{
		{"insert into t values (1 / 0, 1)", "error 9"}, {"insert into t values (1, 'x')", "error 7"}, {"insert into t values (1)", "error 1"}, {"insert into t values (0, 1)", "error 2"}, {"insert into t values (null, 1), (1 / 0, 1)", "error 2"},
	})
	asks(t, bigTable(39, math.MaxInt64), [][2]string{
		{"insert into t values (1 / 0, 1)", "error 9"}, {"insert into t values (1, 'x')", "error 7"}, {"insert into t values (0, 1)", "error 8"}, {"insert into t values (0, 1), (1)", "error 8"},
	})
	asks(t, bigTable(39, 39), [][2]string{{"insert into t values (0, 1)", "error 6"}, {"insert into t values (0, 1), (0, 1)", "error 2"}})
}

// S4: new values come of the old row, all at once; rows and Ids that are not asked for stay.
func TestUpdate(t *testing.T) {
	rest := "; 2: 2 'rook' 5; 3: 3 'tit' 7"
	asks(t, birds(t), [][2]string{
		{"update t set b = 'x'", "1: 1 'x' NULL; 2: 2 'x' 5; 3: 3 'x' 7"}, {"update t set b = 'x' where a = 1", "1: 1 'x' NULL" + rest}, {"update t set b = 'x' where c", "1: 1 'wren' NULL; 2: 2 'x' 5; 3: 3 'x' 7"}, {"update t set b = 'x' where c is null", "1: 1 'x' NULL" + rest}, {"update t set b = 'x' where c > 9", "1: 1 'wren' NULL" + rest}, {"update t set b = 'x' where null", "1: 1 'wren' NULL" + rest},
		{"update t set a = c, c = a where a > 1", "1: 1 'wren' NULL; 2: 5 'rook' 2; 3: 7 'tit' 3"}, {"update t set c = b, b = null where a = 1", "1: 1 NULL 'wren'" + rest}, {"update t set a = a + 10, c = a, b = 'b' where a = 1", "1: 11 'b' 1" + rest}, {"update t set c = b like '%t%'", "1: 1 'wren' 0; 2: 2 'rook' 0; 3: 3 'tit' 1"},
		{"update t set z = 1", "error 5"}, {"update t set z = 1 where a > 9", "error 5"}, {"update t set a = 1 / 0, z = 1", "error 5"}, {"update t set z = 1 where 1 / 0", "error 5"}, {"update t set c = z", "error 5"}, {"update t set c = z where a > 9", "1: 1 'wren' NULL" + rest}, {"update t set c = c / 0", "error 9"}, {"update t set c = c / 0 where a = 1", "1: 1 'wren' NULL" + rest},
		{"update t set b = a where a = 2", "error 7"}, {"update t set a = null where a = 2", "error 5"}, {"update t set a = null where a = 99", "1: 1 'wren' NULL" + rest}, {"update t set a = 'x' where a = 2", "error 7"}, {"update t set c = 1 where b", "error 7"}, {"update t set c = 1 where z", "error 5"}, {"update t set c = 1 where 1 / (a - 3)", "error 9"}, {"update t set c = 1 where b like '\\'", "error 1"},
		// One row behind the other: whether it is asked for, its values, whether they fit.
		{"update t set c = 1 / (a - 2) where 1 / (3 - a) is not null", "error 9"}, {"update t set b = a - 1, c = b + 1 where a = 1", "error 7"}, {"update t set b = 1, c = 1 / 0 where a = 1", "error 9"}, {"update t set a = null, c = b + 1", "error 7"}, {"update t set c = b + 1, a = 1 / 0", "error 7"}, {"update t set a = 1 / 0, c = b + 1", "error 9"}, {"update t set a = null where 1 / (2 - a) = 1", "error 5"}, {"update t set c = b + 1 where 1 / (2 - a) = 1", "error 7"}, {"update t set a = null where 1 / (1 - a) = 0", "error 9"}, {"update t set a = 1 / (a - 2), b = 'x'", "error 9"}, {"update t set b = 1 where 1 / (a - 2) < 0", "error 7"},
		// Twice comes behind what is wrong with any row.
		{"update t set a = 5", "error 6"}, {"update t set a = 2 where a = 1", "error 6"}, {"update t set a = 5, c = 1 / (a - 3)", "error 9"}, {"update t set a = 5, b = c", "error 7"}, {"update u set b = 1", "error 6"}, {"update u set b = 1 where a = 1", "1: 1 1; 2: NULL NULL; 3: 2 NULL"}, {"update u set b = null", "1: 1 NULL; 2: NULL NULL; 3: 2 NULL"}, {"update u set a = 1", "1: 1 1; 2: 1 NULL; 3: 1 NULL"}, {"update u set b = a", "1: 1 1; 2: NULL NULL; 3: 2 2"},
	})
	empty := made(t, "create table t (a integer)")
	asks(t, empty, [][2]string{{"update t set a = 1 / 0 where z", ""}, {"update t set z = 1", "error 5"}, {"delete from t where z", ""}, {"delete from t", ""}})
}

// S4: what is Unique at the end is right, whatever it is on the way; what is right row by row is not, if it is not so at the end.
func TestUniqueAtTheEnd(t *testing.T) {
	d := birds(t)
	asks(t, d, [][2]string{
		{"update t set a = a + 1", "1: 2 'wren' NULL; 2: 3 'rook' 5; 3: 4 'tit' 7"}, {"update t set a = a - 1", "1: 0 'wren' NULL; 2: 1 'rook' 5; 3: 2 'tit' 7"}, {"update t set a = 4 - a", "1: 3 'wren' NULL; 2: 2 'rook' 5; 3: 1 'tit' 7"}, {"update t set a = a % 3 + 1", "1: 2 'wren' NULL; 2: 3 'rook' 5; 3: 1 'tit' 7"},
		{"update t set a = 9 where a > 1", "error 6"}, {"update t set a = a / 2 + 8", "error 6"}, {"insert into t values (9, null, null), (9, null, null)", "error 6"}, {"update u set b = 5 where b is null", "error 6"}, {"update u set b = 5 where a is null", "1: 1 1; 2: NULL 5; 3: 2 NULL"},
	})
	full := bigTable(40, 40)
	asks(t, full, [][2]string{{"update t set a = 0 where a = 39", "error 6"}, {"update t set a = 39 where a = 0", "error 6"}, {"update t set a = 7", "error 6"}})
	if after, said := told(t, full, "update t set a = 39 - a"); strings.HasPrefix(said, "error") || after.Tables[0].Rows[0].Row[0] != whole(39) || len(after.Tables[0].Rows) != 40 {
		t.Errorf("%s", said)
	}
}

// S4: the rows go at which Where is True, and no others.
func TestDelete(t *testing.T) {
	asks(t, birds(t), [][2]string{
		{"delete from t", ""}, {"delete from t where 1", ""}, {"delete from t where 0", "1: 1 'wren' NULL; 2: 2 'rook' 5; 3: 3 'tit' 7"}, {"delete from t where null", "1: 1 'wren' NULL; 2: 2 'rook' 5; 3: 3 'tit' 7"}, {"delete from t where c > 5", "1: 1 'wren' NULL; 2: 2 'rook' 5"}, {"delete from t where not c > 5", "1: 1 'wren' NULL; 3: 3 'tit' 7"}, {"delete from t where a = 2", "1: 1 'wren' NULL; 3: 3 'tit' 7"}, {"delete from t where c is null", "2: 2 'rook' 5; 3: 3 'tit' 7"}, {"delete from u where b is null", "1: 1 1"}, {"delete from u where b is not null", "2: NULL NULL; 3: 2 NULL"},
		{"delete from t where b", "error 7"}, {"delete from t where z", "error 5"}, {"delete from t where 1 / (a - 3)", "error 9"}, {"delete from t where a + 9223372036854775805 > 0", "error 8"}, {"delete from t where 1 / (a - 2) + (b + 1)", "error 7"}, {"delete from t where b like '\\'", "error 1"},
	})
	d := birds(t)
	after, _ := told(t, d, "delete from t where a < 3")
	if after.Next != d.Next || !same(after.Tables[1], d.Tables[1]) || !same(after.Tables[0].Schema, d.Tables[0].Schema) {
		t.Errorf("by a delete of t %v has become %v", d, after)
	}
	asks(t, after, [][2]string{{"insert into t values (1, null, null)", "3: 3 'tit' 7; 4: 1 NULL NULL"}})
}

// S5: each step of a selection, in the document's order.
func TestSelect(t *testing.T) {
	d := made(t, "create table t (a, b integer, c text)", "insert into t values (3, 1, 'x'), (1, 2, 'y'), (3, 1, 'x'), (null, 5, 'z')", "insert into t values ('q', null, 'y'), (3, 7, null)", "create table e (a)")
	all := "3 1 'x'; 1 2 'y'; 3 1 'x'; NULL 5 'z'; 'q' NULL 'y'; 3 7 NULL"
	asks(t, d, [][2]string{
		{"select * from t", all}, {"select a, b, c from t", all}, {"select * from t where 1", all}, {"select c, a from t where b < 3", "'x' 3; 'y' 1; 'x' 3"}, {"select 7 from t where c = 'y'", "7; 7"}, {"select b + 1, b is null, - b from t where c = 'y'", "3 0 -2; NULL 1 NULL"}, {"select a, a, a, a, b, b, b, b from t where b = 7", "3 3 3 3 7 7 7 7"}, {"select * from t where null", ""}, {"select * from t where b", "3 1 'x'; 1 2 'y'; 3 1 'x'; NULL 5 'z'; 3 7 NULL"},
		{"select distinct * from t where a = 3", "3 1 'x'; 3 7 NULL"}, {"select distinct a from t", "3; 1; NULL; 'q'"}, {"select distinct 7 from t", "7"}, {"select distinct a from t order by 1", "NULL; 1; 3; 'q'"}, {"select distinct a from t order by 1 desc", "'q'; 3; 1; NULL"}, {"select distinct a from t limit 2", "3; 1"}, {"select a from t limit 2", "3; 1"}, {"select a from t limit 2 offset 1", "1; 3"}, {"select distinct a from t limit 2 offset 1", "1; NULL"}, {"select a from t order by 1 limit 2", "NULL; 1"}, {"select a from t limit 0", ""}, {"select a from t limit 9 offset 6", ""}, {"select a from t limit 9 offset 5", "3"}, {"select a from t limit 9223372036854775807 offset 9223372036854775807", ""}, {"select a from t limit 6", "3; 1; 3; NULL; 'q'; 3"},
		{"select b, c from t order by 2 desc, 1", "5 'z'; NULL 'y'; 2 'y'; 1 'x'; 1 'x'; 7 NULL"}, {"select c, b from t order by 2", "'y' NULL; 'x' 1; 'x' 1; 'y' 2; 'z' 5; NULL 7"}, {"select - b, a from t where b > 1 order by 1", "-7 3; -5 NULL; -2 1"}, {"select * from t where a = 3 order by 1", "3 1 'x'; 3 1 'x'; 3 7 NULL"},
		{"select count(*) from t", "6"}, {"select count(a), count(b), count(c) from t", "5 5 5"}, {"select sum(b), min(b), max(b), min(a), max(a), min(c), max(c) from t", "16 1 7 1 'q' 'x' 'z'"}, {"select count(*), sum(b), min(c) from t where b > 9", "0 NULL NULL"}, {"select sum(a) from t where a < 4", "10"}, {"select a, count(*) from t group by a", "3 3; 1 1; NULL 1; 'q' 1"}, {"select c, sum(b), count(b), count(*) from t group by c", "'x' 2 2 2; 'y' 2 1 2; 'z' 5 1 1; NULL 7 1 1"}, {"select c, a from t group by c, a", "'x' 3; 'y' 1; 'z' NULL; 'y' 'q'; NULL 3"}, {"select a, c, max(b) from t group by a, c", "3 'x' 1; 1 'y' 2; NULL 'z' 5; 'q' 'y' NULL; 3 NULL 7"}, {"select a, a from t group by a, a", "3 3; 1 1; NULL NULL; 'q' 'q'"},
		{"select a, sum(b) from t where b > 1 group by a order by 2 desc", "3 7; NULL 5; 1 2"}, {"select a, sum(b) from t group by a order by 2 limit 1 offset 1", "1 2"}, {"select distinct count(*) from t", "6"}, {"select c, count(*) from t group by c order by 2 desc, 1 limit 2", "'x' 2; 'y' 2"}, {"select a, count(*) from t where a = 8 group by a", ""}, {"select max(b), min(b), count(*), max(b) from t", "7 1 6 7"},
		{"select * from e", ""}, {"select z from e", ""}, {"select * from e where z", ""}, {"select 1 / 0 from e where 1 / 0 order by 8", ""}, {"select count(*) from e", "0"}, {"select count(a), sum(a), min(a), max(a) from e", "0 NULL NULL NULL"}, {"select a, count(*) from e group by a", ""}, {"select count(*) from e order by 1", "0"}, {"select count(*) from e limit 0", ""},
	})
	two := made(t, "create table t (a, b)", "insert into t values (1, 1), (1, 2), (2, 1), (1, 3)", "insert into t values (2, 2), (3, 3)")
	asks(t, two, [][2]string{{"select distinct count(*) from t", "6"}, {"select a, count(*) from t group by a", "1 3; 2 2; 3 1"}, {"select distinct a % 2 from t order by 1", "0; 1"}, {"select distinct a, a from t limit 1 offset 1", "2 2"}, {"select a from t order by 1 desc limit 2 offset 1", "2; 2"}})
}

// S5: each error where the steps have it.
func TestSelectErrors(t *testing.T) {
	d := made(t, "create table t (a, b integer, c text)", "insert into t values (1, 9223372036854775807, 'x'), (0, 1, 'y'), (2, 1, 'z')", "create table e (a)")
	asks(t, d, [][2]string{
		{"select z from t", "error 5"}, {"select * from t where z", "error 5"}, {"select * from t where c", "error 7"}, {"select * from t where 1 / a", "error 9"}, {"select 1 / a from t", "error 9"}, {"select 1 / a from t where a", "1; 0"}, {"select c + 1 from t", "error 7"}, {"select b + 1 from t", "error 8"}, {"select c like '\\' from t", "error 1"}, {"select z, 1 / 0 from t", "error 5"}, {"select 1 / 0, z from t", "error 9"}, {"select 1 / a, b + 1 from t", "error 8"}, {"select 1 / 0 from t where b + 1", "error 8"},
		{"select sum(b) from t", "error 8"}, {"select sum(c) from t", "error 7"}, {"select sum(b), sum(c) from t", "error 8"}, {"select sum(c), sum(b) from t", "error 7"}, {"select a, sum(b) from t group by a", "1 9223372036854775807; 0 1; 2 1"}, {"select a, sum(c) from t group by a", "error 7"}, {"select sum(c) from t where a = 9", "NULL"},
		{"select sum(z) from t", "error 5"}, {"select z, count(*) from t group by z", "error 5"}, {"select a, sum(c), max(z) from t group by a", "error 5"}, {"select z, sum(c) from t group by z", "error 5"}, {"select sum(z) from t where 1 / a", "error 9"}, {"select z, count(*) from t where c group by z", "error 7"}, {"select sum(z) from t where a = 9", "error 5"}, {"select a, count(z) from t where a = 9 group by a", "error 5"}, {"select count(z) from e", "error 5"}, {"select z from e group by z", "error 5"}, {"select count(*), count(z) from e where 1 / 0", "error 5"},
		{"select * from t order by 4", "error 3"}, {"select * from t order by 3", "1 9223372036854775807 'x'; 0 1 'y'; 2 1 'z'"}, {"select a from t order by 2", "error 3"}, {"select a from t order by 1, 2", "error 3"}, {"select a, b, c, a, b, c, a, b from t order by 8 limit 0", ""}, {"select a from t order by 8 limit 0", "error 3"}, {"select a from t where a > 9 order by 8", ""}, {"select count(*) from t order by 2", "error 3"}, {"select a, count(*) from t group by a order by 3", "error 3"}, {"select 1 / a from t order by 2", "error 9"}, {"select distinct z from t order by 2", "error 5"}, {"select sum(c) from t order by 2", "error 7"},
	})
}

// S5: a table of as many rows and columns as may be.
func TestSelectLimits(t *testing.T) {
	x := api.Table{Schema: form(1, "t")}
	for i := range 6 {
		x.Schema.Cols = append(x.Schema.Cols, api.Column{Name: string(rune('a' + i))})
	}
	for i := range 40 {
		var row values
		for k := range 6 {
			row = append(row, whole(int64(i*(k+1)%7)))
		}
		x.Rows = append(x.Rows, entry(int64(i+1), row...))
	}
	d := api.DB{Next: 1000, Tables: []api.Table{x}}
	for s, want := range map[string]int{"select * from t": 40, "select a, b, c, d, e, f, a, 1 from t order by 8, 7": 40, "select distinct * from t": 7, "select a, b, c, d, e, f, count(*), sum(f) from t group by a, b, c, d, e, f": 7, "select count(*), count(a), sum(a), min(a), max(a), sum(f), max(f), min(f) from t": 1, "select * from t where a > 3": 16, "select * from t limit 40": 40, "select * from t limit 39": 39, "select * from t limit 40 offset 39": 1} {
		if _, l, err := hold(t, d, stmtOf(s)); err != api.OK || len(l) != want {
			t.Errorf("%s: %d rows, %d; want %d", s, len(l), err, want)
		}
	}
}

// S1 to S6, P1: drawn tables, and commands one behind the other on them.
func TestDrawn(t *testing.T) {
	d := draw(1)
	counts, kinds := map[api.Errno]int{}, map[int]int{}
	for range 4000 {
		x := drawnDB(&d)
		for range 1 + d.below(8) {
			s := drawnStmt(&d, x)
			after, l, err := hold(t, x, s)
			counts[err]++
			if err == api.OK {
				if s.Kind == api.Select && len(l) > 0 || s.Kind != api.Select && !same(x, after) {
					kinds[s.Kind]++
				}
				x = after
			}
		}
	}
	for _, err := range []api.Errno{api.OK, api.ErrForm, api.ErrMany, api.ErrRange, api.ErrNone, api.ErrTwice, api.ErrKind, api.ErrOver, api.ErrZero} {
		if counts[err] < 20 {
			t.Errorf("%d: drawn too few: %v", err, counts)
		}
	}
	for kind := api.Create; kind <= api.Delete; kind++ {
		if kinds[kind] < 100 {
			t.Errorf("%d: too few do something: %v", kind, kinds)
		}
	}
}

// S1, S2, P1: drawn tables to which something was done.
func TestDrawnWrong(t *testing.T) {
	d := draw(2)
	counts := map[api.Errno]int{}
	for range 10000 {
		x := drawnDB(&d)
		s := drawnStmt(&d, x)
		x = spoil(&d, x)
		_, _, err := hold(t, x, s)
		if Check(x) != api.OK && err != Check(x) {
			t.Fatalf("%v: %d; want %d", x, err, Check(x))
		}
		counts[Check(x)]++
	}
	for _, err := range []api.Errno{api.OK, api.ErrForm, api.ErrMany, api.ErrRange, api.ErrState, api.ErrNone, api.ErrTwice, api.ErrKind} {
		if counts[err] < 100 {
			t.Errorf("%d: drawn too few: %v", err, counts)
		}
	}
}

// P2: tables and commands that are handed in stay what they were, the room behind them too; what is answered is new memory, no two lists of it share any, and a later change is not seen in it.
func TestOnlyRead(t *testing.T) {
	d := draw(3)
	for range 3000 {
		x := roomy(drawnDB(&d))
		s := roomy(drawnStmt(&d, x))
		if d.below(8) == 0 {
			x = roomy(spoil(&d, x))
		}
		was := fmt.Sprint(entire(reflect.ValueOf(x)), entire(reflect.ValueOf(s)))
		Check(x)
		type answer struct {
			DB   api.DB
			Told rows
		}
		var got answer
		var err api.Errno
		got.DB, got.Told, err = Run(x, s)
		want, wantTold, wantErr := modelRun(x, s)
		if is := fmt.Sprint(entire(reflect.ValueOf(x)), entire(reflect.ValueOf(s))); is != was {
			t.Fatalf("%s has become %s", was, is)
		}
		if shared(got, x, s) {
			t.Fatalf("Run(%v, %v): memory is shared", x, s)
		}
		want, wantTold = plain(want), plain(wantTold)
		scribble(reflect.ValueOf(&x).Elem())
		scribble(reflect.ValueOf(&s).Elem())
		if err != wantErr || !same(got.DB, want) || !same(got.Told, wantTold) {
			t.Fatalf("a change is seen in what was answered: %v", got)
		}
	}
}

// P2: lists that are handed in and are one, come out as several.
func TestOneListOften(t *testing.T) {
	row := values{whole(1), null}
	cols := []api.Column{{Name: "a"}, {Name: "b"}}
	l := []api.Entry{entry(1, row...), entry(2, row...)}
	l[0].Row, l[1].Row = row, row
	d := api.DB{Next: 3, Tables: []api.Table{{Schema: form(1, "t", cols...), Rows: l}, {Schema: form(2, "u", cols...), Rows: l}}}
	one := exprOf("a + 1")
	for _, s := range []api.Stmt{stmtOf("select * from t"), {Kind: api.Create, Table: "v", Cols: cols}, {Kind: api.Update, Table: "t", Sets: []api.Assign{{Name: "a", E: one}, {Name: "b", E: one}}, Where: one}, {Kind: api.Insert, Table: "u", Rows: [][]nodes{{exprOf("1"), exprOf("2")}}}, stmtOf("delete from u where a = 1"), stmtOf("drop table t")} {
		hold(t, d, s)
		after, told, _ := Run(d, s)
		if shared(struct {
			DB   api.DB
			Told rows
		}{after, told}, d, s) {
			t.Errorf("%v: memory is shared", s)
		}
	}
}

// P3: whatever was asked ahead of it, and whoever asks at the same time.
func TestNothingIsKept(t *testing.T) {
	common := birds(t)
	var hands sync.WaitGroup
	for seed := range 4 {
		hands.Go(func() {
			d := draw(60 + seed)
			for range 400 {
				x := drawnDB(&d)
				if d.coin() {
					x = common
				}
				s := drawnStmt(&d, x)
				want, wantTold, wantErr := modelRun(x, s)
				for range 2 {
					if got, l, err := Run(x, s); err != wantErr || !same(got, want) || !same(l, wantTold) {
						t.Errorf("Run(%v, %v) = %v, %v, %d; want %v, %v, %d", x, s, got, l, err, want, wantTold, wantErr)
					}
				}
			}
		})
	}
	hands.Wait()
}

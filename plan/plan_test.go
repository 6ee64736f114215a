package plan

import (
	"fmt"
	"math"
	"reflect"
	"slices"
	"strings"
	"sync"
	"testing"

	"starling/api"
	"starling/tree"
)

func form(cols ...api.Column) api.Schema { return api.Schema{Id: 1, Name: "u", Cols: cols} }

// birds has Unique columns a and c, of which one row has Nulls, and b between them.
func birds() api.Table {
	t := api.Table{Schema: form(api.Column{Name: "a", Unique: true}, api.Column{Name: "b"}, api.Column{Name: "c", Kind: api.Text, Unique: true})}
	for i := range 9 {
		t.Rows = append(t.Rows, entry(int64(2*i+1), whole(int64(i)), whole(int64(i%3)), text(strings.Repeat("q", i))))
	}
	t.Rows[4].Row = values{null, whole(0), null}
	return t
}

// T1: the first part that an index may help with, wherever it stands.
func TestPick(t *testing.T) {
	none := func(l ...string) {
		for _, s := range l {
			if col, v, ok, err := holdPick(t, birds().Schema, exprOf(s)); ok || col != 0 || v != null || err != api.OK {
				t.Errorf("%s: %d, %v, %v, %d", s, col, v, ok, err)
			}
		}
	}
	picks := func(col int, v api.Value, l ...string) {
		for _, s := range l {
			if gotCol, got, ok, err := holdPick(t, birds().Schema, exprOf(s)); !ok || gotCol != col || got != v || err != api.OK {
				t.Errorf("%s: %d, %v, %v, %d; want %d, %v", s, gotCol, got, ok, err, col, v)
			}
		}
	}
	picks(0, whole(3), "a = 3", "3 = a", "(a) = (3)", "a = 3 and b = 0", "b = 0 and a = 3", "b = 0 and 3 = a", "a = 3 and a = 4", "a = 3 and c = 'q'", "z = 1 and a = 3", "a = null and a = 3", "null = a and a = 3", "b = 3 and c > 'q' and a = 3 and a = 4", "b = 0 and (a > 1 and a = 3)", "(b = 0 and (b = 1 and (b = 2 and a = 3))) and a = 4", "((a = 3 and b = 0) and a = 4) and a = 5", "(b = 1 and b = 2) and (a = 3 and a = 4)", "(a = 4 or b = 0) and a = 3", "not a = 4 and a = 3", "a = a and a = 3", "4 = 4 and a = 3", "a and a = 3", "a <> 4 and a = 3", "a in (4) and a = 3", "a = - 4 and a = 3", "a + 0 = 4 and a = 3", "1 / 0 and a = 3", "a = 3 and z", "not (a = 4 and b = 0) and a = 3", "a = b and b = a and a = 3", "(a = 4) = 1 and a = 3")
	picks(2, text("qq"), "c = 'qq'", "'qq' = c", "'qq' = c and a = 2", "b = 1 and c = 'qq' and a = 2")
	picks(0, whole(0), "a = 0")
	picks(0, whole(math.MaxInt64), "9223372036854775807 = a")
	picks(0, text(""), "a = ''")
	picks(0, blob("\x00\xff"), "a = x'00ff'")
	picks(2, whole(1), "c = 1")
	picks(2, text("it's"), "c = 'it''s'")
	picks(2, text(long(16)), "c = '"+long(16)+"'")
	none("a", "3", "null", "a = null", "null = a", "null = null", "b = 1", "1 = b", "z = 1", "3 = 3", "a = a", "a = b", "a = c", "a <> 3", "a < 3", "a <= 3", "a > 3", "a >= 3", "a + 3", "a like '3'", "a in (3)", "a between 3 and 3", "a is null", "a is not null", "not a = 3", "not not a = 3", "a = 3 or b = 0", "a = 3 or a = 3", "(a = 3 and b = 0) or b = 1", "not (a = 3 and b = 0)", "a = -1", "- a = 1", "a + 0 = 3", "a = 3 + 0", "(a = 3) = 1", "1 = (a = 3)", "(a = 3) is not null", "b = 1 and b = 2 and (b = 3 or a = 3)", "(a = 3) + 1", "aa = 3")
}

// T1: columns are told by their places, and only those that are Unique.
func TestPickColumns(t *testing.T) {
	for marks := range 1 << 6 {
		var cols []api.Column
		for i := range 6 {
			cols = append(cols, api.Column{Name: string(rune('a' + i)), Kind: i % 4, NotNull: i%2 == 0, Unique: marks>>i&1 == 1})
		}
		for i := range 7 {
			where := exprOf(string(rune('a'+i)) + " = 7")
			col, v, ok, err := holdPick(t, form(cols...), where)
			if want := marks>>i&1 == 1; ok != want || err != api.OK || ok && (col != i || v != whole(7)) {
				t.Errorf("%06b: %d: %d, %v, %v, %d", marks, i, col, v, ok, err)
			}
		}
		holdPick(t, form(cols...), exprOf("a = 1 and b = 2 and c = 3 and d = 4 and e = 5 and f = 6"))
		holdPick(t, form(cols...), exprOf("6 = f and (5 = e and (d = 4 and (3 = c and (2 = b and 1 = a))))"))
	}
}

// T1: as many parts, and as deep, as may be.
func TestPickLimits(t *testing.T) {
	eq := func(name string, n int64) nodes {
		return nodes{{Op: api.OpCol, Name: name}, {Op: api.OpLit, V: whole(n)}, {Op: api.OpEq, Kids: 2}}
	}
	and := api.Node{Op: api.OpAnd, Kids: 2}
	for n := range 12 {
		left, right := eq("a", 0), eq("a", int64(n))
		for i := range n {
			left = append(append(left, eq("b", int64(i))...), and)
			right = append(append(eq("b", int64(i)), right...), and)
		}
		_, _, ok, err := holdPick(t, birds().Schema, left)
		_, v, okRight, errRight := holdPick(t, birds().Schema, right)
		if want := n <= 10; ok != want || okRight != want || want != (err == api.OK) || !want && (err != api.ErrDeep || errRight != api.ErrDeep) || want && v != whole(int64(n)) {
			t.Errorf("%d: %v, %d; %v, %v, %d", n, ok, err, okRight, v, errRight)
		}
	}
	// Fifteen parts, evenly deep.
	var many []nodes
	for i := range 15 {
		many = append(many, eq("b", int64(i)))
	}
	many[14] = eq("c", 3)
	for len(many) > 1 {
		many = append(many[2:], append(append(append(nodes{}, many[0]...), many[1]...), and))
	}
	if col, v, ok, err := holdPick(t, birds().Schema, many[0]); len(many[0]) != 59 || col != 2 || v != whole(3) || !ok || err != api.OK {
		t.Errorf("%d nodes: %d, %v, %v, %d", len(many[0]), col, v, ok, err)
	}
}

// wrongForms has forms with faults, and the error of each.
func wrongForms() map[api.Errno][]api.Schema {
	a := api.Column{Name: "a", Unique: true}
	return map[api.Errno][]api.Schema{
		api.ErrRange: {{}, {Id: 0, Name: "T"}, {Id: 1000, Name: "t", Cols: []api.Column{a}}, {Id: -1}, {Id: math.MaxInt, Name: "t", Cols: []api.Column{a}}, {Id: math.MinInt, Name: "t", Cols: []api.Column{a}}},
		api.ErrForm:  {{Id: 1, Name: "T", Cols: []api.Column{a}}, {Id: 1, Name: "t"}, {Id: 1, Name: "t", Cols: []api.Column{{}}}, {Id: 1, Name: "select", Cols: []api.Column{a}}, {Id: 1, Name: long(13), Cols: []api.Column{a}}},
		api.ErrMany:  {{Id: 1, Name: "t", Cols: make([]api.Column, 7)}},
		api.ErrKind:  {{Id: 1, Name: "t", Cols: []api.Column{{Name: "a", Kind: 4}}}},
		api.ErrTwice: {{Id: 1, Name: "t", Cols: []api.Column{a, a}}},
	}
}

// wrongExprs has expressions with faults, and the error of each.
func wrongExprs() map[api.Errno][]nodes {
	deep := exprOf("not not not not not not not not not not not 1")
	a := api.Node{Op: api.OpCol, Name: "a"}
	return map[api.Errno][]nodes{
		api.ErrForm:  {nil, {}, {a, a}, {a, {Op: api.OpEq, Kids: 2}}, {{Op: api.OpCol, Name: "A"}}, {a, {Op: api.OpLit, V: whole(1)}, {Op: api.OpEq, Kids: 3}}, {{Op: api.OpAnd, Kids: 2}}},
		api.ErrMany:  {make(nodes, 61), {a, {Op: api.OpLit, V: text(long(17))}, {Op: api.OpEq, Kids: 2}}},
		api.ErrKind:  {{{}}, {{Op: 26}}, {{Op: api.OpLit, V: api.Value{Kind: 4}}}},
		api.ErrRange: {{a, {Op: api.OpLit, V: whole(-1)}, {Op: api.OpEq, Kids: 2}}},
		api.ErrDeep:  {append(deep, api.Node{Op: api.OpNot, Kids: 1})},
	}
}

// T1 to T3: what is wrong with a form comes first of each call; what is wrong with an expression comes next, ahead of what is wrong with rows.
func TestWrongForms(t *testing.T) {
	for want, l := range wrongForms() {
		for _, s := range l {
			for _, where := range []nodes{nil, {{}}, exprOf("a = 1")} {
				if _, _, _, err := holdPick(t, s, where); err != want {
					t.Errorf("Pick(%v, %v): %d; want %d", s, where, err, want)
				}
				for _, rows := range []entries{nil, {entry(0)}, {entry(1, null)}, {entry(1, whole(1)), entry(2, whole(1))}, make(entries, 41)} {
					if _, err := holdFind(t, api.Table{Schema: s, Rows: rows}, where); err != want {
						t.Errorf("Find(%v, %v): %d; want %d", s, where, err, want)
					}
					if err := holdIndex(t, api.Table{Schema: s, Rows: rows}, len(where)-1); err != want {
						t.Errorf("Index(%v, %v): %d; want %d", s, rows, err, want)
					}
				}
			}
		}
	}
	for want, l := range wrongExprs() {
		for _, where := range l {
			if _, _, _, err := holdPick(t, birds().Schema, where); err != want {
				t.Errorf("Pick(.., %v): %d; want %d", where, err, want)
			}
			for _, rows := range []entries{nil, birds().Rows, {entry(0)}, make(entries, 41)} {
				if _, err := holdFind(t, api.Table{Schema: birds().Schema, Rows: rows}, where); err != want {
					t.Errorf("Find(.., %v): %d; want %d", where, err, want)
				}
			}
		}
	}
}

// T2, T3: what is wrong with rows: all of chapter 13, then all of Fits; then of an Index the column, and what is there twice in it, of Find what is there twice in whichever column, and only then what an expression tells of a row.
func TestWrongRows(t *testing.T) {
	s := form(api.Column{Name: "a", Unique: true}, api.Column{Name: "b", Kind: api.Int}, api.Column{Name: "c", Unique: true, NotNull: true})
	one, two, wrong := whole(1), whole(2), api.Value{Kind: 9}
	full := make(entries, 41)
	for i := range full {
		full[i] = entry(int64(i+1), whole(int64(i)), two, whole(int64(-i)))
	}
	list := func(l ...api.Entry) entries { return l }
	for i, c := range []struct {
		rows       entries
		index      [5]api.Errno // of columns -1 to 3
		find, fail api.Errno    // of a right expression, and of one that fails at a row
	}{
		{nil, [5]api.Errno{3, 0, 0, 0, 3}, 0, 0}, {full[:1], [5]api.Errno{3, 0, 0, 0, 3}, 0, 9}, {full[:40], [5]api.Errno{3, 0, 6, 0, 3}, 0, 9}, {full, [5]api.Errno{2, 2, 2, 2, 2}, 2, 2},
		{list(entry(0, one, one, one)), [5]api.Errno{3, 3, 3, 3, 3}, 3, 3}, {list(entry(2, one, one, one), entry(2, two, two, two)), [5]api.Errno{4, 4, 4, 4, 4}, 4, 4}, {list(entry(1), entry(1)), [5]api.Errno{4, 4, 4, 4, 4}, 4, 4}, {list(entry(1, make(values, 9)...)), [5]api.Errno{2, 2, 2, 2, 2}, 2, 2}, {list(entry(1), entry(2, wrong)), [5]api.Errno{7, 7, 7, 7, 7}, 7, 7},
		{list(entry(1, one, one)), [5]api.Errno{1, 1, 1, 1, 1}, 1, 1}, {list(entry(1, one, one, one, one)), [5]api.Errno{1, 1, 1, 1, 1}, 1, 1}, {list(entry(1)), [5]api.Errno{1, 1, 1, 1, 1}, 1, 1}, {list(entry(1, one, text("x"), one)), [5]api.Errno{7, 7, 7, 7, 7}, 7, 7}, {list(entry(1, one, one, null)), [5]api.Errno{5, 5, 5, 5, 5}, 5, 5}, {list(entry(1, one, one, one), entry(2, one, one, one), entry(3, one)), [5]api.Errno{1, 1, 1, 1, 1}, 1, 1}, {list(entry(1, one, one, null), entry(2, one)), [5]api.Errno{5, 5, 5, 5, 5}, 5, 5},
		{list(entry(1, one, one, one), entry(2, one, two, two)), [5]api.Errno{3, 6, 0, 0, 3}, 6, 6}, {list(entry(1, one, one, one), entry(2, two, two, one)), [5]api.Errno{3, 0, 0, 6, 3}, 6, 6}, {list(entry(1, one, one, one), entry(2, two, one, two)), [5]api.Errno{3, 0, 6, 0, 3}, 0, 9}, {list(entry(1, null, null, one), entry(2, null, null, two), entry(3, null, null, whole(0))), [5]api.Errno{3, 0, 0, 0, 3}, 0, 9}, {list(entry(1, one, one, one), entry(2, null, null, two), entry(9, one, null, text("1"))), [5]api.Errno{3, 6, 0, 0, 3}, 6, 6}, {list(entry(1, one, null, one), entry(2, text("1"), null, text("1")), entry(3, blob("1"), null, blob("1")), entry(4, blob(""), null, blob("")), entry(5, text(""), null, text(""))), [5]api.Errno{3, 0, 0, 0, 3}, 0, 9},
	} {
		x := api.Table{Schema: s, Rows: c.rows}
		for k, want := range c.index {
			if err := holdIndex(t, x, k-1); err != want {
				t.Errorf("%d: Index(.., %d): %d; want %d", i, k-1, err, want)
			}
		}
		for _, where := range []string{"b = 77", "a = 77", "c = 77 and 1 / 0 = 1"} {
			if _, err := holdFind(t, x, exprOf(where)); err != c.find {
				t.Errorf("%d: Find(.., %s): %d; want %d", i, where, err, c.find)
			}
		}
		if _, err := holdFind(t, x, exprOf("1 / 0 = 1")); err != c.fail {
			t.Errorf("%d: Find(.., 1 / 0 = 1): %d; want %d", i, err, c.fail)
		}
	}
	for _, col := range []int{math.MinInt, math.MaxInt, 4, 1 << 32} {
		if err := holdIndex(t, birds(), col); err != api.ErrRange {
			t.Errorf("%d: %d", col, err)
		}
	}
}

// T2: of each value that is no Null a pair, in a tree to which they came row by row.
func TestIndex(t *testing.T) {
	x := api.Table{Schema: form(api.Column{Name: "a"})}
	key := func(n byte) string { return "\x10\x80\x00\x00\x00\x00\x00\x00" + string(n) }
	for i, n := range []int64{5, 3, 4, 1, 2} {
		x.Rows = append(x.Rows, entry(int64(10*i+7), whole(n)), entry(int64(10*i+8), null))
	}
	got, err := Index(x, 0)
	want := api.Tree{Leaves: [][]api.Pair{{{Key: key(1), Id: 37}, {Key: key(2), Id: 47}}, {{Key: key(3), Id: 17}, {Key: key(4), Id: 27}, {Key: key(5), Id: 7}}}, Up: [][]int{{2}}}
	holdIndex(t, x, 0)
	if err != api.OK || !same(got, want) {
		t.Errorf("%v, %d; want %v", got, err, want)
	}
	kinds := api.Table{Schema: form(api.Column{Name: "a"}), Rows: entries{entry(1, text("a\x00")), entry(2, blob("")), entry(5, whole(-1)), entry(6, text(strings.Repeat("\x00", 16))), entry(math.MaxInt64, whole(math.MinInt64))}}
	got, err = Index(kinds, 0)
	l, _ := tree.List(got)
	wantList := []api.Pair{{Key: "\x10" + strings.Repeat("\x00", 8), Id: math.MaxInt64}, {Key: "\x10\x7f" + strings.Repeat("\xff", 7), Id: 5}, {Key: " " + strings.Repeat("\x00\xff", 16) + "\x00\x01", Id: 6}, {Key: " a\x00\xff\x00\x01", Id: 1}, {Key: "0\x00\x01", Id: 2}}
	if err != api.OK || !slices.Equal(l, wantList) {
		t.Errorf("%v, %d; want %v", l, err, wantList)
	}
	for _, empty := range []api.Table{{Schema: x.Schema}, {Schema: x.Schema, Rows: entries{entry(1, null), entry(2, null)}}} {
		if got, err := Index(empty, 0); len(got.Leaves) != 0 || len(got.Up) != 0 || err != api.OK {
			t.Errorf("%v, %d", got, err)
		}
	}
}

// T2: full tables, whose values rise, fall, or come in some other order.
func TestFullIndex(t *testing.T) {
	for step := range 41 {
		for n := range 41 {
			x := api.Table{Schema: form(api.Column{Name: "a"}, api.Column{Name: "b", Unique: true})}
			for i := range n {
				x.Rows = append(x.Rows, entry(int64(i+1), null, whole(int64(i*step%41))))
			}
			want := api.OK
			if step == 0 && n > 1 {
				want = api.ErrTwice
			}
			if err := holdIndex(t, x, 1); err != want {
				t.Fatalf("%d rows, %d from one to the next: %d", n, step, err)
			}
			if n == 40 && want == api.OK {
				for v := range 41 {
					l, err := holdFind(t, x, exprOf(fmt.Sprint("b = ", v)))
					if err != api.OK || len(l) > 1 {
						t.Fatalf("%v, %d", l, err)
					}
				}
			}
		}
	}
}

// T3: the rows at which an expression is true, by an index or without one.
func TestFind(t *testing.T) {
	for where, want := range map[string]string{
		"a = 3": "7", "3 = a": "7", "a = 3 and b = 0": "7", "b = 0 and a = 3": "7", "a = 3 and b = 1": "", "a = 3 or b = 0": "1 7 9 13", "a = 99": "", "a = null": "", "b = 1": "3 15", "c = 'qq'": "5", "c = ''": "1", "a = 0": "1", "a = 8": "17", "'qq' = c and a = 2": "5", "a = 2 and c = 'qqq'": "", "a = a": "1 3 5 7 11 13 15 17", "a is null": "9", "a is null and c is null": "9", "a = -1": "", "not a = 3": "1 3 5 11 13 15 17", "a + 0 = 3": "7", "b > 0 and (a > 1 and a = 7)": "15", "1": "1 3 5 7 9 11 13 15 17", "0": "", "null": "", "a = 3 and null": "", "a = 3 and 1": "7", "a = '3'": "", "c = 1": "", "a = x''": "", "a = 3 and a = 4": "", "a = 3 and (a = 4 or b = 0)": "7", "a = 3 and not a = 3": "",
	} {
		l, err := holdFind(t, birds(), exprOf(where))
		var ids []string
		for _, e := range l {
			ids = append(ids, fmt.Sprint(e.Id))
		}
		if got := strings.Join(ids, " "); got != want || err != api.OK {
			t.Errorf("%s: %s, %d; want %s", where, got, err, want)
		}
	}
	for _, where := range []string{"a = 1", "b", "z", "1 / 0"} {
		if l, err := holdFind(t, api.Table{Schema: birds().Schema}, exprOf(where)); len(l) != 0 || err != api.OK {
			t.Errorf("without rows: %s: %v, %d", where, l, err)
		}
	}
}

// T3, T4: an error of a row that an index leaves out is not told; one of the row that it finds is, and without an index that of the first row that has any.
func TestFindErrors(t *testing.T) {
	for where, want := range map[string]api.Errno{
		"1 / (a - 3) = 0": api.ErrZero, "a = 3 and 1 / (a - 3) = 0": api.ErrZero, "a = 4 and 1 / (a - 3) = 0": 0, "a = 5 and 1 / (a - 3) = 0": 0, "1 / (a - 3) = 0 and a = 5": 0, "1 / (a - 3) = 0 and 5 = a": 0, "b = 0 and 1 / (a - 3) = 0": api.ErrZero, "a = 99 and 1 / 0 = 1": 0, "a = 99 and z": 0, "a = 3 and z": api.ErrNone, "z = 1": api.ErrNone, "a = 99 and c": 0, "a = 3 and c": api.ErrKind, "c": api.ErrKind, "c = 'qq' and 1 / (a - 3) = 0": 0, "c = 'qqq' and 1 / (a - 3) = 0": api.ErrZero, "a = 5 and a = 3 and 1 / (a - 5)": api.ErrZero, "a = 3 and a = 5 and 1 / (a - 5)": 0, "a = null and 1 / (a - 3) = 0": api.ErrZero, "a + 0 = 5 and 1 / (a - 3) = 0": api.ErrZero, "a = 5 or 1 / (a - 3) = 0": api.ErrZero, "a = 3 and b like 'x'": api.ErrKind, "a = 3 and c like '\\'": api.ErrForm, "a = 99 and c like '\\'": 0, "1 / (a - 3) = c + 1": api.ErrKind, "1 / a = c + 1": api.ErrZero, "a = 3 and a + 9223372036854775807": api.ErrOver, "a = 0 and a + 9223372036854775807": 0,
	} {
		if _, err := holdFind(t, birds(), exprOf(where)); err != want {
			t.Errorf("%s: %d; want %d", where, err, want)
		}
	}
	// A row with a Null is left out too, at which alone there is no error.
	if l, err := holdFind(t, birds(), exprOf("a = 1 and c + 1 is null")); len(l) != 0 || err != api.ErrKind {
		t.Errorf("%v, %d", l, err)
	}
}

// T1 to T4, P1: drawn tables, right ones and such as something was done to, and drawn expressions.
func TestDrawn(t *testing.T) {
	d := draw(1)
	finds, indexes, found := map[api.Errno]int{}, map[api.Errno]int{}, map[string]int{}
	for range 6000 {
		right := drawnTable(&d)
		x := right
		if d.below(3) == 0 {
			x = spoil(&d, x)
		}
		indexes[holdIndex(t, x, d.below(6)-1)]++
		for range 4 {
			where := drawnWhere(&d, right)
			_, _, ok, _ := holdPick(t, x.Schema, where)
			l, err := holdFind(t, x, where)
			finds[err]++
			found[fmt.Sprint(ok, len(l) > 0)]++
		}
	}
	for _, err := range []api.Errno{api.OK, api.ErrForm, api.ErrMany, api.ErrRange, api.ErrState, api.ErrNone, api.ErrTwice, api.ErrKind} {
		if finds[err] < 50 || indexes[err] < 20 {
			t.Errorf("%d: drawn too few: %v, %v", err, finds, indexes)
		}
	}
	for _, k := range []string{"true true", "true false", "false true", "false false"} {
		if found[k] < 500 {
			t.Errorf("drawn too few: %v", found)
		}
	}
	if finds[api.ErrZero] < 50 {
		t.Errorf("drawn too few: %v", finds)
	}
}

// P2: what is handed in is only read, the room behind it too; what is answered is new memory, no two lists of it share any, and a later change is not seen in it.
func TestOnlyRead(t *testing.T) {
	d := draw(2)
	for i := range 3000 {
		x := roomy(drawnTable(&d))
		where := roomy(drawnWhere(&d, x))
		if i%8 == 0 {
			x = roomy(spoil(&d, x))
		}
		was := fmt.Sprint(entire(reflect.ValueOf(x)), entire(reflect.ValueOf(where)))
		Pick(x.Schema, where)
		col := d.below(len(x.Schema.Cols))
		index, _ := Index(x, col)
		l, _ := Find(x, where)
		wantIndex, _ := modelIndex(x, col)
		want, _ := modelFind(x, where)
		wantIndex, want = plain(wantIndex), plain(want)
		if is := fmt.Sprint(entire(reflect.ValueOf(x)), entire(reflect.ValueOf(where))); is != was {
			t.Fatalf("%s has become %s", was, is)
		}
		if shared(index, x, where) || shared(l, x, where) {
			t.Fatalf("%v, %v: memory is shared", x, where)
		}
		for _, e := range x.Rows[:cap(x.Rows)] {
			clear(e.Row[:cap(e.Row)])
		}
		clear(x.Rows[:cap(x.Rows)])
		clear(where)
		if !same(index, wantIndex) || !same(l, want) {
			t.Fatalf("a change is seen in what was answered: %v, %v", index, l)
		}
	}
	// Rows that are one, come out as several.
	row := values{null, whole(1), null}
	x := birds()
	for i := range x.Rows {
		x.Rows[i].Row = row
	}
	if l, err := holdFind(t, x, exprOf("b = 1")); len(l) != 9 || err != api.OK || shared(l, x) {
		t.Errorf("%v, %d, or memory is shared", l, err)
	}
}

// P3: whatever was asked ahead of it, and whoever asks at the same time.
func TestNothingIsKept(t *testing.T) {
	common := birds()
	var hands sync.WaitGroup
	for seed := range 4 {
		hands.Go(func() {
			d := draw(60 + seed)
			for range 400 {
				x := drawnTable(&d)
				if d.coin() {
					x = common
				}
				where := drawnWhere(&d, x)
				want, wantErr := modelFind(x, where)
				wantIndex, wantIndexErr := modelIndex(x, 0)
				for range 2 {
					if got, err := Find(x, where); err != wantErr || !same(got, want) {
						t.Errorf("Find(%v, %v) = %v, %d; want %v, %d", x, where, got, err, want, wantErr)
					}
					if got, err := Index(x, 0); err != wantIndexErr || !same(got, wantIndex) {
						t.Errorf("Index(%v, 0) = %v, %d; want %v, %d", x, got, err, wantIndex, wantIndexErr)
					}
				}
			}
		})
	}
	hands.Wait()
}

package plan

import (
	"encoding/binary"
	"fmt"
	"math"
	"math/bits"
	"reflect"
	"regexp"
	"slices"
	"strings"
	"testing"

	"starling/api"
	"starling/catalog"
	"starling/db"
	"starling/eval"
	"starling/expr"
	"starling/leaf"
	"starling/lex"
	"starling/tree"
	"starling/value"
)

// draw: numbers that are the same each time.
type draw uint64

func (d *draw) next() uint64 {
	*d = *d*6364136223846793005 + 1442695040888963407
	x := uint64(*d)
	return bits.RotateLeft64(x^x>>29, 23) * 0x9E3779B97F4A7C15
}

func (d *draw) below(n int) int { return int(d.next() >> 11 % uint64(n)) }

func (d *draw) coin() bool { return d.below(2) == 0 }

func (d *draw) one(l ...string) string { return l[d.below(len(l))] }

type entries = []api.Entry
type values = []api.Value
type nodes = []api.Node

var null api.Value

func whole(n int64) api.Value { return api.Value{Kind: api.Int, N: n} }
func text(s string) api.Value { return api.Value{Kind: api.Text, S: s} }
func blob(s string) api.Value { return api.Value{Kind: api.Blob, S: s} }
func long(n int) string       { return strings.Repeat("w", n) }

func entry(id int64, row ...api.Value) api.Entry { return api.Entry{Id: id, Row: row} }

// exprOf reads an expression that must be one.
func exprOf(s string) nodes {
	l, _, err := lex.Lex(s)
	if err != api.OK {
		panic(fmt.Sprint(s, err))
	}
	e, err := expr.Parse(l)
	if err != api.OK {
		panic(fmt.Sprint(s, err))
	}
	return e
}

// plain answers what is the same, in memory of its own, with each empty list nil.
func plain[T any](x T) T {
	tidy(reflect.ValueOf(&x).Elem())
	return x
}

func tidy(v reflect.Value) {
	switch v.Kind() {
	case reflect.Slice:
		if v.Len() == 0 {
			v.SetZero()
			return
		}
		v.Set(reflect.AppendSlice(reflect.Zero(v.Type()), v))
		for i := range v.Len() {
			tidy(v.Index(i))
		}
	case reflect.Struct:
		for i := range v.NumField() {
			tidy(v.Field(i))
		}
	}
}

func same[T any](a, b T) bool { return reflect.DeepEqual(plain(a), plain(b)) }

// lastBegins tells where the last expression of several begins.
func lastBegins(e nodes) int {
	at := len(e)
	for wanted := 1; wanted > 0; {
		at--
		wanted += e[at].Kids - 1
	}
	return at
}

func modelParts(e nodes) []nodes {
	below, root := e[:len(e)-1], e[len(e)-1]
	if root.Op != api.OpAnd {
		return []nodes{e}
	}
	at := lastBegins(below)
	return append(modelParts(below[:at]), modelParts(below[at:])...)
}

const (
	nameForm    = `([a-z_][a-z_0-9]*)`
	literalForm = `(\d+|x?'(?:[^']|'')*')`
)

var equals = regexp.MustCompile(`(?s)\A(?:` + nameForm + ` = ` + literalForm + `|` + literalForm + ` = ` + nameForm + `)\z`)

// modelPick as in T1; a part is looked at as text.
func modelPick(s api.Schema, where nodes) (int, api.Value, bool, api.Errno) {
	if err := catalog.Check([]api.Schema{s}); err != api.OK {
		return 0, null, false, err
	}
	if err := expr.Check(where); err != api.OK {
		return 0, null, false, err
	}
	for _, part := range modelParts(where) {
		tokens, _ := expr.Tokens(part)
		written, _ := lex.Print(tokens)
		found := equals.FindStringSubmatch(written)
		if found == nil || found[1] == "null" || found[4] == "null" {
			continue
		}
		for i, c := range s.Cols {
			if c.Unique && c.Name == found[1]+found[4] {
				v, err := value.Of(found[2] + found[3])
				if err != api.OK {
					panic(written)
				}
				return i, v, true, api.OK
			}
		}
	}
	return 0, null, false, api.OK
}

// modelRows tells what is wrong with rows, up to Fits.
func modelRows(t api.Table) api.Errno {
	if err := leaf.Check(t.Rows); err != api.OK {
		return err
	}
	for _, e := range t.Rows {
		if err := catalog.Fits(t.Schema, e.Row); err != api.OK {
			return err
		}
	}
	return api.OK
}

// modelKey as in D3.
func modelKey(v api.Value) string {
	if v.Kind == api.Int {
		return "\x10" + string(binary.BigEndian.AppendUint64(nil, uint64(v.N)+1<<63))
	}
	return map[int]string{api.Text: " ", api.Blob: "0"}[v.Kind] + strings.ReplaceAll(v.S, "\x00", "\x00\xff") + "\x00\x01"
}

// modelIndex as in T2.
func modelIndex(t api.Table, col int) (api.Tree, api.Errno) {
	if err := catalog.Check([]api.Schema{t.Schema}); err != api.OK {
		return api.Tree{}, err
	}
	if err := modelRows(t); err != api.OK {
		return api.Tree{}, err
	}
	if col < 0 || len(t.Schema.Cols) <= col {
		return api.Tree{}, api.ErrRange
	}
	if twice(t, col) {
		return api.Tree{}, api.ErrTwice
	}
	var x api.Tree
	for _, e := range t.Rows {
		if v := e.Row[col]; v != null {
			var err api.Errno
			if x, err = tree.Insert(x, modelKey(v), e.Id); err != api.OK {
				panic(err)
			}
		}
	}
	return x, api.OK
}

// twice holds each row against each one before.
func twice(t api.Table, col int) bool {
	for i, e := range t.Rows {
		for _, before := range t.Rows[:i] {
			if e.Row[col] != null && e.Row[col] == before.Row[col] {
				return true
			}
		}
	}
	return false
}

// modelFind as in T3; the row that an index finds is looked for among all.
func modelFind(t api.Table, where nodes) (entries, api.Errno) {
	col, v, picked, err := modelPick(t.Schema, where)
	if err != api.OK {
		return nil, err
	}
	if err := modelRows(t); err != api.OK {
		return nil, err
	}
	for i, c := range t.Schema.Cols {
		if c.Unique && twice(t, i) {
			return nil, api.ErrTwice
		}
	}
	var out entries
	for _, e := range t.Rows {
		if picked && e.Row[col] != v {
			continue
		}
		truth, err := truthAt(t, where, e.Row)
		if err != api.OK {
			return nil, err
		}
		if truth == api.True {
			out = append(out, e)
		}
	}
	return out, api.OK
}

func truthAt(t api.Table, where nodes, row values) (int, api.Errno) {
	var cols []string
	for _, c := range t.Schema.Cols {
		cols = append(cols, c.Name)
	}
	return eval.Truth(where, cols, row)
}

// holdPick holds Pick against the model, and tells what it answers.
func holdPick(t *testing.T, s api.Schema, where nodes) (int, api.Value, bool, api.Errno) {
	t.Helper()
	col, v, ok, err := Pick(s, where)
	wantCol, wantV, wantOk, wantErr := modelPick(s, where)
	if col != wantCol || v != wantV || ok != wantOk || err != wantErr {
		t.Fatalf("Pick(%v, %v) = %d, %v, %v, %d; want %d, %v, %v, %d", s, where, col, v, ok, err, wantCol, wantV, wantOk, wantErr)
	}
	return col, v, ok, err
}

// holdIndex holds Index against the model, and tells its error; of each value an index tells the row.
func holdIndex(t *testing.T, x api.Table, col int) api.Errno {
	t.Helper()
	got, err := Index(x, col)
	want, wantErr := modelIndex(x, col)
	if err != wantErr || !same(got, want) {
		t.Fatalf("Index(%v, %d) = %v, %d; want %v, %d", x, col, got, err, want, wantErr)
	}
	if err != api.OK {
		return err
	}
	if tree.Check(got) != api.OK {
		t.Fatalf("Index(%v, %d) = %v, which is no tree", x, col, got)
	}
	for _, e := range x.Rows {
		if id, found, _ := tree.Find(got, modelKey(e.Row[col])); e.Row[col] != null && (!found || id != e.Id) {
			t.Fatalf("%v: %d, %v; want %d", e.Row[col], id, found, e.Id)
		}
	}
	return api.OK
}

// holdFind holds Find against the model, and, if no row has an error, against what comes without an index; it tells what Find answers.
func holdFind(t *testing.T, x api.Table, where nodes) (entries, api.Errno) {
	t.Helper()
	got, err := Find(x, where)
	want, wantErr := modelFind(x, where)
	if err != wantErr || !same(got, want) || err != api.OK && len(got) > 0 {
		t.Fatalf("Find(%v, %v) = %v, %d; want %v, %d", x, where, got, err, want, wantErr)
	}
	if err == api.OK {
		holdWithout(t, x, where, got)
	}
	return got, err
}

// holdWithout as in T4: a Select goes through all rows.
func holdWithout(t *testing.T, x api.Table, where nodes, found entries) {
	t.Helper()
	_, l, err := db.Run(api.DB{Next: 1000, Tables: []api.Table{x}}, api.Stmt{Kind: api.Select, Table: x.Schema.Name, Where: where})
	if err != api.OK {
		return
	}
	var rows [][]api.Value
	for _, e := range found {
		rows = append(rows, e.Row)
	}
	if !same(rows, l) {
		t.Fatalf("Find(%v, %v) = %v; without an index %v", x, where, found, l)
	}
}

// drawnValue for a column; few of them are different.
func drawnValue(d *draw, kind int) api.Value {
	if kind == 0 {
		kind = 1 + d.below(3)
	}
	switch kind {
	case api.Int:
		if d.below(9) == 0 {
			return whole([]int64{math.MaxInt64, math.MinInt64, -1}[d.below(3)])
		}
		return whole(int64(d.below(12)))
	case api.Text:
		return text(d.one("", "a", "b", "ab", "wren", "\x00", "'", long(16), strings.Repeat("\x00", 16)))
	}
	return blob(d.one("", "a", "\x00", "\xff", long(16), strings.Repeat("\x00", 16)))
}

// drawnTable is right; its columns are Unique, mostly.
func drawnTable(d *draw) api.Table {
	t := api.Table{Schema: api.Schema{Id: 1 + d.below(999), Name: "t"}}
	for i := range 1 + d.below(4) {
		t.Schema.Cols = append(t.Schema.Cols, api.Column{Name: string(rune('a' + i)), Kind: d.below(4) * d.below(3) % 4, NotNull: d.below(5) == 0, Unique: d.below(3) > 0})
	}
	count, last := d.below(12), int64(d.below(5))
	if d.below(5) == 0 {
		count = 38 + d.below(3)
	}
	for range count * 4 {
		var row values
		for i, c := range t.Schema.Cols {
			v := drawnValue(d, c.Kind)
			if count > 12 && (c.Kind == 0 || c.Kind == api.Int) {
				v = whole(int64(len(t.Rows)*5%41 - i))
			}
			if d.below(5) == 0 && !c.NotNull {
				v = null
			}
			row = append(row, v)
		}
		more := t
		more.Rows = append(t.Rows, entry(last+1+int64(d.below(3)), row...))
		isTwice := false
		for i, c := range t.Schema.Cols {
			isTwice = isTwice || c.Unique && twice(more, i)
		}
		if len(t.Rows) < count && !isTwice {
			t = more
			last = t.Rows[len(t.Rows)-1].Id
		}
	}
	return t
}

// drawnLiteral of a value; mostly of one that a row has in the column of a name.
func drawnLiteral(d *draw, t api.Table, name string) string {
	v := drawnValue(d, 0)
	for i, c := range t.Schema.Cols {
		if c.Name == name && len(t.Rows) > 0 && d.below(3) > 0 {
			v = t.Rows[d.below(len(t.Rows))].Row[i]
		}
	}
	if v.N < 0 {
		return "7"
	}
	s, _ := value.Show(v)
	return s
}

// drawnPart of an expression.
func drawnPart(d *draw, t api.Table) string {
	name := d.one("a", "a", "a", "b", "b", "c", "d")
	other := drawnLiteral(d, t, name)
	switch d.below(14) {
	case 0:
		return name + d.one(" <> ", " < ", " >= ") + other
	case 1:
		return "(" + name + " = " + other + " or " + drawnPart(d, t) + ")"
	case 2:
		return "not " + name + " = " + other
	case 3:
		return name + d.one(" is null", " is not null", " in (1, 2)", " like 'a%'", " = a", " + 0 = 3", " = - 1", "")
	case 4:
		return "1 / (a - 3) " + d.one("=", "<>") + " 0"
	case 5:
		return other + " = " + drawnLiteral(d, t, name)
	case 6, 7, 8:
		return other + " = " + name
	}
	return name + " = " + other
}

// drawnWhere has parts with an And between them, in brackets of some kind.
func drawnWhere(d *draw, t api.Table) nodes {
	l := []string{drawnPart(d, t)}
	for range d.below(5) * d.below(2) {
		l = append(l, drawnPart(d, t))
	}
	for len(l) > 1 {
		i := d.below(len(l) - 1)
		l[i] = "(" + l[i] + " and " + l[i+1] + ")"
		l = slices.Delete(l, i+1, i+2)
	}
	return exprOf(l[0])
}

// spoil makes something of a table wrong, mostly.
func spoil(d *draw, x api.Table) api.Table {
	x = plain(x)
	if d.below(4) == 0 || len(x.Rows) == 0 {
		switch d.below(4) {
		case 0:
			x.Schema.Id = []int{0, -1, 999, 1000, math.MaxInt, math.MinInt}[d.below(6)]
		case 1:
			x.Schema.Name = d.one("", "T", "table", "u")
		case 2:
			x.Schema.Cols[0] = api.Column{Name: d.one("a", "b", ""), Kind: d.below(6) - 1, Unique: true}
		case 3:
			x.Schema.Cols = append(x.Schema.Cols, make([]api.Column, d.below(8))...)
		}
		return x
	}
	e := &x.Rows[d.below(len(x.Rows))]
	switch d.below(7) {
	case 0:
		e.Id = []int64{0, -1, 1, 2, math.MaxInt64}[d.below(5)]
	case 1, 2:
		e.Row = plain(x.Rows[d.below(len(x.Rows))].Row)
	case 3:
		e.Row[d.below(len(e.Row))] = []api.Value{{Kind: 4}, {N: 1}, text(long(17)), {Kind: api.Text, N: 1}, null, whole(1), text("a")}[d.below(7)]
	case 4:
		e.Row = append(e.Row, null)[d.below(2):]
	case 5:
		x.Schema.Cols[0].NotNull, x.Schema.Cols[0].Unique = true, true
	case 6:
		for id := e.Id + 1000; len(x.Rows) < 41; id++ {
			x.Rows = append(x.Rows, entry(id, make(values, len(x.Schema.Cols))...))
		}
	}
	return x
}

// roomy answers what is the same, with spare room behind each list, filled.
func roomy[T any](x T) T {
	widen(reflect.ValueOf(&x).Elem())
	return x
}

func widen(v reflect.Value) {
	switch v.Kind() {
	case reflect.Slice:
		n := v.Len()
		wide := reflect.MakeSlice(v.Type(), n+2, n+2)
		reflect.Copy(wide, v)
		for i := range n {
			widen(wide.Index(i))
			wide.Index(n).Set(wide.Index(i))
		}
		v.Set(wide.Slice(0, n))
	case reflect.Struct:
		for i := range v.NumField() {
			widen(v.Field(i))
		}
	}
}

// entire tells all that a value has, the spare room of its lists too.
func entire(v reflect.Value) []any {
	switch v.Kind() {
	case reflect.Slice:
		out := []any{v.Len()}
		for i := range v.Cap() {
			out = append(out, entire(v.Slice(0, v.Cap()).Index(i))...)
		}
		return out
	case reflect.Struct:
		var out []any
		for i := range v.NumField() {
			out = append(out, entire(v.Field(i))...)
		}
		return out
	}
	return []any{v.Interface()}
}

// memory tells where each list of a value lies, its spare room too.
func memory(v reflect.Value) [][2]uintptr {
	var out [][2]uintptr
	switch v.Kind() {
	case reflect.Slice:
		if v.Cap() > 0 {
			out = append(out, [2]uintptr{v.Pointer(), v.Pointer() + uintptr(v.Cap())*v.Type().Elem().Size()})
		}
		for i := range v.Len() {
			out = append(out, memory(v.Index(i))...)
		}
	case reflect.Struct:
		for i := range v.NumField() {
			out = append(out, memory(v.Field(i))...)
		}
	}
	return out
}

// shared tells whether two lists of an answer share memory, or one of them and one of what was handed in.
func shared(answer any, handed ...any) bool {
	own := memory(reflect.ValueOf(answer))
	all := slices.Clone(own)
	for _, x := range handed {
		all = append(all, memory(reflect.ValueOf(x))...)
	}
	for i, a := range own {
		for _, b := range all[i+1:] {
			if a[0] < b[1] && b[0] < a[1] {
				return true
			}
		}
	}
	return false
}

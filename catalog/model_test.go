package catalog

import (
	"fmt"
	"math"
	"math/bits"
	"reflect"
	"regexp"
	"slices"
	"strings"
	"testing"

	"starling/api"
	"starling/leaf"
	"starling/value"
)

// draw: numbers that are the same each time.
type draw uint64

func (d *draw) next() uint64 {
	*d = *d*6364136223846793005 + 1442695040888963407
	x := uint64(*d)
	return bits.RotateLeft64(x^x>>29, 23) * 0x9E3779B97F4A7C15
}

func (d *draw) below(n int) int { return int(d.next() >> 11 % uint64(n)) }

func (d *draw) one(l ...string) string { return l[d.below(len(l))] }

type schemas = []api.Schema
type entries = []api.Entry
type values = []api.Value

func whole(n int64) api.Value { return api.Value{Kind: api.Int, N: n} }
func text(s string) api.Value { return api.Value{Kind: api.Text, S: s} }
func blob(s string) api.Value { return api.Value{Kind: api.Blob, S: s} }
func long(n int) string       { return strings.Repeat("w", n) }

func table(id int, name string, cols ...api.Column) api.Schema {
	return api.Schema{Id: id, Name: name, Cols: cols}
}

func col(name string) api.Column { return api.Column{Name: name} }

// columns has so many columns with different names.
func columns(n int) []api.Column {
	var l []api.Column
	for i := range n {
		l = append(l, col(fmt.Sprint("c", i)))
	}
	return l
}

// tables has so many tables with different names.
func tables(n int) schemas {
	var l schemas
	for i := range n {
		l = append(l, table(i+1, fmt.Sprint("t", i), col("a")))
	}
	return l
}

// reserved words, as H4 has them.
func reserved() []string {
	return strings.Split("and, any, as, asc, begin, between, blob, by, commit, count, create, delete, desc, distinct, drop, from, group, in, insert, integer, into, is, like, limit, max, min, not, null, offset, or, order, rollback, select, set, sum, table, text, unique, update, values, where", ", ")
}

var word = regexp.MustCompile(`\A[a-z_][a-z_0-9]{0,11}\z`)

func modelName(s string) bool { return word.MatchString(s) && !slices.Contains(reserved(), s) }

// modelCheck as in Q1.
func modelCheck(l schemas) api.Errno {
	if len(l) > 6 {
		return api.ErrMany
	}
	for i, s := range l {
		if s.Id < 1 || 999 < s.Id {
			return api.ErrRange
		}
		if i > 0 && s.Id <= l[i-1].Id {
			return api.ErrState
		}
		if !modelName(s.Name) || len(s.Cols) < 1 {
			return api.ErrForm
		}
		if len(s.Cols) > 6 {
			return api.ErrMany
		}
		for k, c := range s.Cols {
			if !modelName(c.Name) {
				return api.ErrForm
			}
			if !slices.Contains([]int{0, api.Int, api.Text, api.Blob}, c.Kind) {
				return api.ErrKind
			}
			for _, before := range s.Cols[:k] {
				if before.Name == c.Name {
					return api.ErrTwice
				}
			}
		}
		for _, before := range l[:i] {
			if before.Name == s.Name {
				return api.ErrTwice
			}
		}
	}
	return api.OK
}

// modelRows as in Q2.
func modelRows(l schemas) (entries, api.Errno) {
	if err := modelCheck(l); err != api.OK {
		return nil, err
	}
	var out entries
	for _, s := range l {
		e := api.Entry{Id: int64(s.Id), Row: values{text(s.Name)}}
		for _, c := range s.Cols {
			n := map[bool]string{true: "n", false: "-"}[c.NotNull]
			u := map[bool]string{true: "u", false: "-"}[c.Unique]
			e.Row = append(e.Row, text(fmt.Sprint(c.Kind)+n+u+c.Name))
		}
		out = append(out, e)
	}
	return out, api.OK
}

var column = regexp.MustCompile(`(?s)\A([0-3])([n-])([u-])(.*)\z`)

// modelOf as in Q2.
func modelOf(l entries) (schemas, api.Errno) {
	if err := leaf.Check(l); err != api.OK {
		return nil, err
	}
	var out schemas
	for _, e := range l {
		s := api.Schema{Id: int(e.Id)}
		for i, v := range e.Row {
			if v.Kind != api.Text {
				return nil, api.ErrForm
			}
			if i == 0 {
				s.Name = v.S
				continue
			}
			parts := column.FindStringSubmatch(v.S)
			if parts == nil {
				return nil, api.ErrForm
			}
			s.Cols = append(s.Cols, api.Column{Name: parts[4], Kind: int(parts[1][0] - '0'), NotNull: parts[2] == "n", Unique: parts[3] == "u"})
		}
		if len(e.Row) == 0 {
			return nil, api.ErrForm
		}
		out = append(out, s)
	}
	if err := modelCheck(out); err != api.OK {
		return nil, err
	}
	return out, api.OK
}

// modelFits as in Q3.
func modelFits(s api.Schema, row values) api.Errno {
	if err := modelCheck(schemas{s}); err != api.OK {
		return err
	}
	if len(s.Cols) != len(row) {
		return api.ErrForm
	}
	for i, v := range row {
		if err := value.Check(v); err != api.OK {
			return err
		}
		if s.Cols[i].NotNull && v == (api.Value{}) {
			return api.ErrNone
		}
		if k := s.Cols[i].Kind; k != v.Kind && k*v.Kind != 0 {
			return api.ErrKind
		}
	}
	return api.OK
}

func sameTable(a, b api.Schema) bool {
	return a.Id == b.Id && a.Name == b.Name && slices.Equal(a.Cols, b.Cols)
}

func sameEntry(a, b api.Entry) bool { return a.Id == b.Id && slices.Equal(a.Row, b.Row) }

// hold holds Check and Rows against the model, and tells their error; what is told is read as it was.
func hold(t *testing.T, l schemas) api.Errno {
	t.Helper()
	err := Check(l)
	if want := modelCheck(l); err != want {
		t.Errorf("Check(%v) = %d; want %d", l, err, want)
	}
	rows, rowsErr := Rows(l)
	if want, wantErr := modelRows(l); rowsErr != wantErr || !slices.EqualFunc(rows, want, sameEntry) || rowsErr != api.OK && rows != nil {
		t.Errorf("Rows(%v) = %v, %d; want %v, %d", l, rows, rowsErr, want, wantErr)
	}
	if rowsErr == api.OK {
		if back, err := Of(rows); err != api.OK || !slices.EqualFunc(back, l, sameTable) {
			t.Errorf("%v is read as %v, %d", l, back, err)
		}
	}
	return err
}

// holdRows holds Of against the model, and tells its error; what is read is told as it stood.
func holdRows(t *testing.T, l entries) api.Errno {
	t.Helper()
	got, err := Of(l)
	if want, wantErr := modelOf(l); err != wantErr || !slices.EqualFunc(got, want, sameTable) || err != api.OK && got != nil {
		t.Errorf("Of(%v) = %v, %d; want %v, %d", l, got, err, want, wantErr)
	}
	if err == api.OK {
		if again, err := Rows(got); err != api.OK || !slices.EqualFunc(again, l, sameEntry) {
			t.Errorf("%v is told as %v, %d", l, again, err)
		}
	}
	return err
}

// holdFits holds Fits against the model, and tells its error.
func holdFits(t *testing.T, s api.Schema, row values) api.Errno {
	t.Helper()
	err := Fits(s, row)
	if want := modelFits(s, row); err != want {
		t.Errorf("Fits(%v, %v) = %d; want %d", s, row, err, want)
	}
	return err
}

func drawnName(d *draw) string {
	b := []byte(d.one("a", "b", "n", "u", "x", "_", "select_"))
	for range d.below(6) {
		b = append(b, "ab_z019"[d.below(7)])
	}
	return string(b)
}

// drawnTables has tables that are right, mostly.
func drawnTables(d *draw) schemas {
	var l schemas
	id := 0
	for range d.below(7) {
		id += 1 + d.below(200)>>d.below(8)
		s := table(id, drawnName(d))
		for range 1 + d.below(6) {
			s.Cols = append(s.Cols, api.Column{Name: drawnName(d), Kind: d.below(4), NotNull: d.below(2) == 0, Unique: d.below(2) == 0})
		}
		l = append(l, s)
	}
	return l
}

// spoil makes something of tables wrong, mostly.
func spoil(d *draw, l schemas) schemas {
	if len(l) == 0 {
		return l
	}
	s := &l[d.below(len(l))]
	c := &s.Cols[d.below(len(s.Cols))]
	switch d.below(9) {
	case 0:
		s.Id = []int{0, -1, 1000, math.MaxInt, math.MinInt}[d.below(5)]
	case 1:
		s.Id = l[d.below(len(l))].Id
	case 2:
		s.Name = d.one("", "T", "table", long(13), "a b", "9a")
	case 3:
		s.Name = l[d.below(len(l))].Name
	case 4:
		s.Cols = []([]api.Column){nil, columns(6), columns(7), columns(9)}[d.below(4)]
	case 5:
		c.Name = d.one("", "C", "null", long(13), "a-", "\xff")
	case 6:
		c.Kind = []int{-1, 4, 5, 256, math.MaxInt, math.MinInt}[d.below(6)]
	case 7:
		c.Name = s.Cols[d.below(len(s.Cols))].Name
	case 8:
		l = append(l, tables(7)...)
	}
	return l
}

func drawnValue(d *draw) api.Value {
	switch d.below(4) {
	case 0:
		return whole(int64(d.next()) >> d.below(64))
	case 1:
		return text(long(d.below(17)))
	case 2:
		return blob(long(d.below(17)))
	}
	return api.Value{}
}

func wrongValue(d *draw) api.Value {
	return []api.Value{{Kind: 4}, {Kind: -1}, {N: 1}, {S: "a"}, {Kind: api.Int, S: "a"}, {Kind: api.Text, N: 1}, text(long(17)), blob(long(17))}[d.below(8)]
}

// spoilRows makes something of entries wrong, mostly.
func spoilRows(d *draw, l entries) entries {
	if len(l) == 0 {
		return entries{{Id: 1}}
	}
	e := &l[d.below(len(l))]
	if len(e.Row) == 0 {
		e.Row = texts("t", "0--a")
	}
	v := &e.Row[d.below(len(e.Row))]
	switch d.below(9) {
	case 0:
		e.Id = []int64{0, -1, 1000, math.MaxInt64, math.MinInt64, 1 << 32}[d.below(6)]
	case 1:
		e.Id = l[d.below(len(l))].Id
	case 2:
		e.Row = e.Row[:d.below(len(e.Row)+1)]
	case 3:
		*v = drawnValue(d)
	case 4:
		*v = wrongValue(d)
	case 5:
		b := []byte(v.S + " ")
		b[d.below(len(b))] = "0123456789nu-/:NUa"[d.below(18)]
		v.S = strings.TrimRight(string(b), " ")
	case 6:
		v.S = v.S[:d.below(len(v.S)+1)]
	case 7:
		for len(e.Row) < 6+d.below(4) {
			e.Row = append(e.Row, text(fmt.Sprint("1n-c", len(e.Row))))
		}
	case 8:
		*v = e.Row[d.below(len(e.Row))]
	}
	return l
}

// memory tells where each list of an answer lies, its spare room too.
func memory(v reflect.Value) [][2]uintptr {
	var out [][2]uintptr
	switch v.Kind() {
	case reflect.Slice:
		if v.Cap() > 0 {
			out = append(out, [2]uintptr{v.Pointer(), v.Pointer() + uintptr(v.Cap())*v.Type().Elem().Size()})
		}
		for i := range v.Len() {
			out = append(out, memory(v.Index(i))...)
		}
	case reflect.Struct:
		for i := range v.NumField() {
			out = append(out, memory(v.Field(i))...)
		}
	}
	return out
}

// shared tells whether two lists of an answer share memory, or one of them and one of what was handed in.
func shared(answer any, handed ...any) bool {
	own := memory(reflect.ValueOf(answer))
	all := slices.Clone(own)
	for _, x := range handed {
		all = append(all, memory(reflect.ValueOf(x))...)
	}
	for i, a := range own {
		for _, b := range all[i+1:] {
			if a[0] < b[1] && b[0] < a[1] {
				return true
			}
		}
	}
	return false
}

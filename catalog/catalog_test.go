package catalog

import (
	"fmt"
	"math"
	"slices"
	"strings"
	"sync"
	"testing"

	"starling/api"
)

// Q1: each error, and of two the one that comes first.
func TestCheck(t *testing.T) {
	a, b := col("a"), col("b")
	kind := func(k int) api.Column { return api.Column{Name: "k", Kind: k} }
	for i, c := range []struct {
		l    schemas
		want api.Errno
	}{
		{nil, 0}, {schemas{}, 0}, {tables(1), 0}, {tables(6), 0}, {tables(7), api.ErrMany}, {make(schemas, 6), api.ErrRange}, {make(schemas, 7), api.ErrMany}, {make(schemas, 1000), api.ErrMany},
		{schemas{table(0, "t", a)}, api.ErrRange}, {schemas{table(1, "t", a)}, 0}, {schemas{table(999, "t", a)}, 0}, {schemas{table(1000, "t", a)}, api.ErrRange}, {schemas{table(-1, "t", a)}, api.ErrRange}, {schemas{table(math.MaxInt, "t", a)}, api.ErrRange}, {schemas{table(math.MinInt, "t", a)}, api.ErrRange}, {schemas{table(0, "T")}, api.ErrRange},
		{schemas{table(1, "t", a), table(1, "u", a)}, api.ErrState}, {schemas{table(2, "t", a), table(1, "u", a)}, api.ErrState}, {schemas{table(2, "t", a), table(0, "u", a)}, api.ErrRange}, {schemas{table(2, "t", a), table(2, "t")}, api.ErrState}, {schemas{table(1, "t", a), table(3, "u", a), table(2, "v", a)}, api.ErrState}, {schemas{table(998, "t", a), table(999, "u", a)}, 0},
		{schemas{table(1, "", a)}, api.ErrForm}, {schemas{table(1, "T", a)}, api.ErrForm}, {schemas{table(1, long(12), a)}, 0}, {schemas{table(1, long(13), a)}, api.ErrForm}, {schemas{table(1, "order", a)}, api.ErrForm}, {schemas{table(1, "a b", a)}, api.ErrForm}, {schemas{table(1, "1a", a)}, api.ErrForm}, {schemas{table(1, "T", columns(7)...)}, api.ErrForm}, {schemas{table(1, "t")}, api.ErrForm}, {schemas{table(1, "t", []api.Column{}...)}, api.ErrForm},
		{schemas{table(1, "t", columns(6)...)}, 0}, {schemas{table(1, "t", columns(7)...)}, api.ErrMany}, {schemas{table(1, "t", make([]api.Column, 7)...)}, api.ErrMany}, {schemas{table(1, "t", make([]api.Column, 6)...)}, api.ErrForm},
		{schemas{table(1, "t", col(""))}, api.ErrForm}, {schemas{table(1, "t", col(long(12)))}, 0}, {schemas{table(1, "t", col(long(13)))}, api.ErrForm}, {schemas{table(1, "t", col("Wren"))}, api.ErrForm}, {schemas{table(1, "t", col("null"))}, api.ErrForm}, {schemas{table(1, "t", api.Column{Name: "null", Kind: 9})}, api.ErrForm},
		{schemas{table(1, "t", kind(-1))}, api.ErrKind}, {schemas{table(1, "t", kind(0))}, 0}, {schemas{table(1, "t", kind(3))}, 0}, {schemas{table(1, "t", kind(4))}, api.ErrKind}, {schemas{table(1, "t", kind(256))}, api.ErrKind}, {schemas{table(1, "t", kind(math.MaxInt))}, api.ErrKind},
		{schemas{table(1, "t", a, a)}, api.ErrTwice}, {schemas{table(1, "t", a, b, a)}, api.ErrTwice}, {schemas{table(1, "t", kind(1), kind(4))}, api.ErrKind}, {schemas{table(1, "t", a, a, col(""))}, api.ErrTwice}, {schemas{table(1, "t", a, col(""), a)}, api.ErrForm}, {schemas{table(1, "t", kind(1), kind(2))}, api.ErrTwice},
		{schemas{table(1, "t", a), table(2, "t", a)}, api.ErrTwice}, {schemas{table(1, "t", a), table(2, "u", a), table(3, "t", b)}, api.ErrTwice}, {schemas{table(1, "t", a), table(2, "t", col(""))}, api.ErrForm}, {schemas{table(1, "t", a), table(2, "t", a), table(0, "", a)}, api.ErrTwice}, {schemas{table(1, "t", a), table(2, "t", kind(7))}, api.ErrKind}, {schemas{table(1, "t", col("t")), table(2, "a", col("t"))}, 0},
	} {
		if got := hold(t, c.l); got != c.want {
			t.Errorf("%d: Check(%v) = %d; want %d", i, c.l, got, c.want)
		}
	}
	for _, w := range reserved() {
		if hold(t, schemas{table(1, w, a)}) != api.ErrForm || hold(t, schemas{table(1, "t", col(w))}) != api.ErrForm || hold(t, schemas{table(1, w+"_", col(w+"9"))}) != api.OK {
			t.Errorf("a name %q", w)
		}
	}
}

// Q2: how a table is told.
func TestRows(t *testing.T) {
	birds := table(7, "birds", api.Column{Name: "id", Kind: api.Int, NotNull: true, Unique: true}, col("name"), api.Column{Name: "egg", Kind: api.Blob, Unique: true}, api.Column{Name: long(12), Kind: api.Text, NotNull: true})
	rows, err := Rows(schemas{birds, table(9, "nests", col("n"))})
	want := entries{{Id: 7, Row: values{text("birds"), text("1nuid"), text("0--name"), text("3-uegg"), text("2n-" + long(12))}}, {Id: 9, Row: values{text("nests"), text("0--n")}}}
	if err != api.OK || !slices.EqualFunc(rows, want, sameEntry) {
		t.Errorf("%v, %d; want %v", rows, err, want)
	}
	back, err := Of(want)
	if err != api.OK || len(back) != 2 || !sameTable(back[0], birds) {
		t.Errorf("%v, %d", back, err)
	}
	for kind := range 4 {
		for marks := range 4 {
			hold(t, schemas{table(1, "t", api.Column{Name: "c", Kind: kind, NotNull: marks%2 == 1, Unique: marks/2 == 1})})
		}
	}
	if l, err := Of(nil); len(l) != 0 || err != api.OK {
		t.Errorf("%v, %d", l, err)
	}
}

func texts(l ...string) values {
	var row values
	for _, s := range l {
		row = append(row, text(s))
	}
	return row
}

// Q2: rows that are no tables': first what chapter 13 says of all, then the form of all, then what is wrong with the tables.
func TestOf(t *testing.T) {
	entry := func(id int64, row ...api.Value) api.Entry { return api.Entry{Id: id, Row: row} }
	right := func(id int64) api.Entry { return entry(id, texts(fmt.Sprint("t", id%1e9), "1nua")...) }
	var many, wrong entries
	for i := range 41 {
		many = append(many, right(int64(i+1)))
		wrong = append(wrong, entry(int64(i+1)))
	}
	wide := []string{"t"}
	for i := range 8 {
		wide = append(wide, fmt.Sprint("1nuc", i))
	}
	for i, c := range []struct {
		l    entries
		want api.Errno
	}{
		{many[:6], 0}, {many[:7], api.ErrMany}, {many[:40], api.ErrMany}, {many, api.ErrMany}, {wrong[:40], api.ErrForm}, {wrong, api.ErrMany}, {append(slices.Clone(many[:6]), wrong[6]), api.ErrForm},
		{entries{entry(0)}, api.ErrRange}, {entries{entry(-1)}, api.ErrRange}, {entries{entry(2), entry(2)}, api.ErrState}, {entries{entry(2), entry(1)}, api.ErrState}, {entries{entry(1), entry(2, make(values, 9)...)}, api.ErrMany}, {entries{entry(1), entry(2, api.Value{Kind: 9})}, api.ErrKind}, {entries{entry(1), entry(2, text(long(17)))}, api.ErrMany},
		{entries{entry(1)}, api.ErrForm}, {entries{entry(1000)}, api.ErrForm}, {entries{right(1000), entry(1001)}, api.ErrForm}, {entries{right(999)}, 0}, {entries{right(1000)}, api.ErrRange}, {entries{right(math.MaxInt64)}, api.ErrRange}, {entries{right(1<<32 + 1)}, api.ErrRange}, {entries{right(1), right(1000), right(1001)}, api.ErrRange},
		{entries{entry(1000, texts("t")...)}, api.ErrRange}, {entries{entry(1, texts("t")...)}, api.ErrForm}, {entries{entry(1, texts("")...)}, api.ErrForm}, {entries{entry(1000, texts("", "0--")...)}, api.ErrRange}, {entries{entry(1000, texts("T", "0--9")...)}, api.ErrRange}, {entries{entry(1, texts("T", "0--a")...)}, api.ErrForm}, {entries{entry(1, texts("t", "0--A")...)}, api.ErrForm}, {entries{entry(1, texts("t", "0--null")...)}, api.ErrForm}, {entries{entry(1, texts("t", "0--")...)}, api.ErrForm},
		{entries{entry(1000, texts("t", "")...)}, api.ErrForm}, {entries{entry(1000, texts("t", "0")...)}, api.ErrForm}, {entries{entry(1000, texts("t", "0-")...)}, api.ErrForm}, {entries{entry(1000, texts("t", "0--")...)}, api.ErrRange}, {entries{entry(1000, texts("t", "0--a", "0-a")...)}, api.ErrForm},
		{entries{entry(1000, text("t"), whole(0))}, api.ErrForm}, {entries{entry(1000, text("t"), api.Value{})}, api.ErrForm}, {entries{entry(1000, text("t"), blob("0--a"))}, api.ErrForm}, {entries{entry(1000, blob("t"), text("0--a"))}, api.ErrForm}, {entries{entry(1000, whole(1), text("0--a"))}, api.ErrForm}, {entries{entry(1000, api.Value{})}, api.ErrForm}, {entries{entry(1000, api.Value{}, text("0--a"))}, api.ErrForm},
		{entries{entry(1, texts(wide[:7]...)...)}, 0}, {entries{entry(1, texts(wide[:8]...)...)}, api.ErrMany}, {entries{entry(1, texts(wide...)...)}, api.ErrMany},
		{entries{entry(1, texts("t", "0--a", "1nua")...)}, api.ErrTwice}, {entries{entry(1, texts("t", "0--a")...), entry(2, texts("t", "0--a")...)}, api.ErrTwice}, {entries{entry(1, texts("t", "0--a", "0--a")...), entry(2, texts("u", "4--a")...)}, api.ErrForm},
		{entries{entry(1, texts("t", "0--abcdefghijkl")...)}, 0}, {entries{entry(1, texts("t", "0--abcdefghijklm")...)}, api.ErrForm}, {entries{entry(1, texts("abcdefghijkl", "0--a")...)}, 0}, {entries{entry(1, texts("abcdefghijklm", "0--a")...)}, api.ErrForm},
	} {
		if got := holdRows(t, c.l); got != c.want {
			t.Errorf("%d: Of(%v): %d; want %d", i, c.l, got, c.want)
		}
	}
}

// Q2: each byte in each place of a column's marks, of a table that is right and of one whose Id is not.
func TestMarks(t *testing.T) {
	for at := range 3 {
		for b := range 256 {
			s := []byte("1nuname")
			s[at] = byte(b)
			err := holdRows(t, entries{{Id: 1, Row: texts("t", string(s))}})
			wrong := holdRows(t, entries{{Id: 1000, Row: texts("t", string(s))}})
			right := strings.IndexByte([]string{"0123", "n-", "u-"}[at], byte(b)) >= 0
			if right && (err != api.OK || wrong != api.ErrRange) || !right && (err != api.ErrForm || wrong != api.ErrForm) {
				t.Errorf("%q: %d, %d", s, err, wrong)
			}
		}
	}
}

// Q3: each error, and of two the one that comes first.
func TestFits(t *testing.T) {
	of := func(kind int, not bool) api.Column {
		return api.Column{Name: fmt.Sprint("c", kind, map[bool]string{true: "n"}[not]), Kind: kind, NotNull: not}
	}
	all := table(1, "t", of(0, false), of(1, false), of(2, false), of(3, false), of(0, true), of(1, true))
	null := api.Value{}
	row := func(l ...api.Value) values { return l }
	for i, c := range []struct {
		s    api.Schema
		row  values
		want api.Errno
	}{
		{all, row(null, null, null, null, whole(0), whole(0)), 0}, {all, row(whole(1), whole(1), text(""), blob(""), text(""), whole(1)), 0}, {all, row(blob("x"), whole(-1), text(long(16)), blob(long(16)), blob(""), whole(math.MinInt64)), 0},
		{all, nil, api.ErrForm}, {all, row(null, null, null, null, whole(0)), api.ErrForm}, {all, row(null, null, null, null, whole(0), whole(0), null), api.ErrForm}, {all, make(values, 100), api.ErrForm}, {all, row(api.Value{Kind: 9}), api.ErrForm},
		{all, row(null, null, null, null, null, whole(0)), api.ErrNone}, {all, row(null, null, null, null, whole(0), null), api.ErrNone},
		{all, row(null, text("1"), null, null, whole(0), whole(0)), api.ErrKind}, {all, row(null, null, whole(1), null, whole(0), whole(0)), api.ErrKind}, {all, row(null, null, null, text("x"), whole(0), whole(0)), api.ErrKind}, {all, row(null, null, blob("x"), null, whole(0), whole(0)), api.ErrKind}, {all, row(null, blob("x"), null, null, whole(0), whole(0)), api.ErrKind}, {all, row(null, null, null, whole(0), whole(0), whole(0)), api.ErrKind},
		{all, row(null, null, null, null, null, text("x")), api.ErrNone}, {all, row(null, text("1"), null, null, null, null), api.ErrKind}, {all, row(null, text("1"), api.Value{N: 1}, null, null, null), api.ErrKind}, {all, row(api.Value{N: 1}, text("1"), null, null, null, null), api.ErrForm}, {all, row(null, null, null, null, api.Value{N: 1}, null), api.ErrForm}, {all, row(null, text(long(17)), null, null, null, null), api.ErrMany}, {all, row(null, api.Value{Kind: 4}, null, null, null, null), api.ErrKind}, {all, row(null, null, null, null, null, api.Value{N: 1}), api.ErrNone},
		{api.Schema{}, nil, api.ErrRange}, {table(1000, "t", of(0, true)), row(null), api.ErrRange}, {table(999, "t", of(0, true)), row(null), api.ErrNone}, {table(1, "T", of(0, true)), row(null), api.ErrForm}, {table(1, "t"), nil, api.ErrForm}, {table(1, "t", columns(7)...), make(values, 7), api.ErrMany}, {table(1, "t", columns(6)...), make(values, 6), 0}, {table(1, "t", of(4, true)), row(null), api.ErrKind}, {table(1, "t", of(1, true), of(1, true)), row(null, null), api.ErrTwice}, {table(1, "t", of(1, true), of(1, true)), row(null), api.ErrTwice},
	} {
		if got := holdFits(t, c.s, c.row); got != c.want {
			t.Errorf("%d: Fits(%v, %v) = %d; want %d", i, c.s, c.row, got, c.want)
		}
	}
}

// Q3: each kind of value in each kind of column.
func TestFitsKinds(t *testing.T) {
	for kind := -1; kind <= 4; kind++ {
		for marks := range 4 {
			c := api.Column{Name: "c", Kind: kind, NotNull: marks%2 == 1, Unique: marks/2 == 1}
			for _, v := range []api.Value{{}, whole(0), text(""), blob(""), {Kind: 4}, {Kind: -1}, {N: 1}} {
				holdFits(t, table(1, "t", c), values{v})
				holdFits(t, table(1, "t", col("a"), c), values{{}, v})
			}
		}
	}
}

// Q1 to Q3, P1: drawn tables and rows, right ones and such as something was done to.
func TestDrawn(t *testing.T) {
	d := draw(1)
	checks, reads, fits := map[api.Errno]int{}, map[api.Errno]int{}, map[api.Errno]int{}
	for range 30000 {
		l := drawnTables(&d)
		checks[hold(t, l)]++
		rows, err := Rows(l)
		for range d.below(3) {
			rows = spoilRows(&d, rows)
		}
		reads[holdRows(t, rows)]++
		if len(l) > 0 && err == api.OK {
			s := l[d.below(len(l))]
			var row values
			for range len(s.Cols) + d.below(8)/7 {
				row = append(row, drawnValue(&d))
			}
			for i, c := range s.Cols {
				if c.Kind > 0 && d.below(4) > 0 {
					row[i] = []api.Value{whole(5), text("x"), blob("y")}[c.Kind-1]
				}
			}
			if d.below(4) == 0 {
				row[d.below(len(row))] = wrongValue(&d)
			}
			fits[holdFits(t, s, row)]++
		}
		checks[hold(t, spoil(&d, l))]++
	}
	for _, err := range []api.Errno{api.OK, api.ErrForm, api.ErrMany, api.ErrRange, api.ErrState, api.ErrTwice, api.ErrKind} {
		if checks[err] < 100 || reads[err] < 100 {
			t.Errorf("%d: drawn too few: %d, %d", err, checks[err], reads[err])
		}
	}
	for _, err := range []api.Errno{api.OK, api.ErrForm, api.ErrMany, api.ErrNone, api.ErrKind} {
		if fits[err] < 100 {
			t.Errorf("%d: drawn too few: %d", err, fits[err])
		}
	}
}

// P2: what is handed in is only read, the room behind it too; what is answered is new memory, no two lists of it share any, and a later change is not seen in it.
func TestOnlyRead(t *testing.T) {
	cols := append(columns(4), col("room"), col("behind"))
	l := append(schemas{table(1, "t", cols[:3]...), table(2, "u", cols[:4]...)}, table(3, "room", cols[:2]...))
	colsWere, lWere := slices.Clone(cols), slices.Clone(l)
	rows, err := Rows(l[:2])
	if err != api.OK || shared(rows, l) {
		t.Errorf("Rows: %d, or memory is shared", err)
	}
	row := append(texts("t", "1nua", "0--b"), text("room"))
	handed := entries{{Id: 1, Row: row[:3]}, {Id: 2, Row: texts("u", "1nua")}, {Id: 3, Row: row[:2]}}
	back, err := Of(handed[:2])
	if err != api.OK || shared(back, handed) {
		t.Errorf("Of: %d, or memory is shared", err)
	}
	Check(l[:2])
	Fits(l[0], row[:3])
	if !slices.Equal(cols, colsWere) || !slices.EqualFunc(l, lWere, sameTable) || !slices.Equal(row, texts("t", "1nua", "0--b", "room")) || len(handed) != 3 || handed[2].Id != 3 {
		t.Errorf("%v, %v, %v, %v", cols, l, row, handed)
	}
	cols[0], row[1] = col("changed"), text("changed")
	if rows[0].Row[1] != text("0--c0") || back[0].Cols[0] != (api.Column{Name: "a", Kind: 1, NotNull: true, Unique: true}) {
		t.Errorf("a change is seen in what was answered: %v, %v", rows, back)
	}
}

// P3: whatever was asked ahead of it, and whoever asks at the same time.
func TestNothingIsKept(t *testing.T) {
	var hands sync.WaitGroup
	for seed := range 4 {
		hands.Go(func() {
			d := draw(60 + seed)
			for range 1000 {
				l := drawnTables(&d)
				if d.below(2) == 0 {
					l = spoil(&d, l)
				}
				hold(t, l)
				hold(t, l)
				rows, _ := Rows(l)
				holdRows(t, spoilRows(&d, rows))
			}
		})
	}
	hands.Wait()
}

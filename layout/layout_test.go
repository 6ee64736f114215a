package layout

import (
	"fmt"
	"math"
	"reflect"
	"slices"
	"strings"
	"sync"
	"testing"

	"starling/api"
	"starling/db"
	"starling/leaf"
)

// birds: the table of the document's example.
func birds() api.DB {
	s := form(1, "birds", api.Column{Name: "id", Kind: api.Int, NotNull: true, Unique: true}, api.Column{Name: "name", Kind: api.Text})
	return dbOf(2, table(s, entry(1, whole(1), text("wren")), entry(2, whole(2), text("rook"))))
}

// U1 to U4: the document's example, byte by byte.
func TestExample(t *testing.T) {
	pages := written(t, birds())
	head, forms := "\x02\x01\x01\x01", "\x01\x02\x03\x02\x05birds\x02\x051nuid\x02\x072--name"
	rows := "\x02\x02\x02\x01\x02\x02\x04wren\x04\x02\x01\x04\x02\x04rook"
	want := []string{sheet(0, 1, 0, head), sheet(1, 1, 0, head), sheet(2, 2, 0, forms), sheet(3, 3, 0, forms), sheet(4, 4, 1, rows)}
	if !slices.Equal(pages, want) {
		t.Errorf("%q; want %q", pages, want)
	}
	pages = with(pages, 0, "")
	if d, err := hold(t, pages); err != api.OK || !same(d, birds()) {
		t.Errorf("without page 0: %v, %d", d, err)
	}
	pages = with(pages, 4, "")
	if d, err := hold(t, pages); err != api.ErrSum || !same(d, api.DB{}) {
		t.Errorf("without page 4: %v, %d", d, err)
	}
	if x, err := holdTable(t, pages, "birds"); err != api.ErrSum || !same(x, api.Table{}) {
		t.Errorf("without page 4: %v, %d", x, err)
	}
}

// places tells which page of which kind and Owner stands where, and the Body of the first head.
func places(pages []string) string {
	var l []string
	for _, s := range pages {
		l = append(l, fmt.Sprint(s[2], ".", int(s[3])<<8+int(s[4])))
	}
	body, _ := bodyAt(pages, 0, 1, 0)
	return fmt.Sprintf("%x: %s", body, strings.Join(l, " "))
}

// rowsOf has so many rows of an Int and a Text of so many bytes.
func rowsOf(n, size int) []api.Entry {
	var l []api.Entry
	for i := range n {
		l = append(l, entry(int64(i+1), whole(int64(i)), text(long(size))))
	}
	return l
}

// two columns, for rowsOf.
func two(id int, name string, rows ...api.Entry) api.Table {
	return table(form(id, name, api.Column{Name: "a", Unique: true}, api.Column{Name: "b"}), rows...)
}

// wide: tables of six columns with names as long as can be: two forms fill a page.
func wide(count int) []api.Table {
	var l []api.Table
	for i := range count {
		x := table(form(i+1, fmt.Sprint("birds_of_you", i)[1:]))
		for k := range 6 {
			x.Schema.Cols = append(x.Schema.Cols, api.Column{Name: fmt.Sprint("birds_of_you", k)[1:], Kind: k % 4, NotNull: i%2 == 0, Unique: k%2 == 0})
		}
		l = append(l, x)
	}
	return l
}

// U1: which pages stand where, and what the heads tell of them.
func TestPages(t *testing.T) {
	full := two(1, "t", rowsOf(40, 16)...)
	for i, c := range []struct {
		d    api.DB
		want string
	}{
		{dbOf(1), "010000: 1.0 1.0"}, {dbOf(127), "7f0000: 1.0 1.0"}, {dbOf(128), "80010000: 1.0 1.0"}, {dbOf(1000), "e8070000: 1.0 1.0"},
		{dbOf(2, two(1, "t")), "02010100: 1.0 1.0 2.0 3.0"}, {dbOf(1000, two(999, "t")), "e807010100: 1.0 1.0 2.0 3.0"},
		{dbOf(8, two(7, "t", rowsOf(1, 0)...)), "08010101: 1.0 1.0 2.0 3.0 4.7"},
		{dbOf(2, full), "02010104: 1.0 1.0 2.0 3.0 4.1 4.1 4.1 4.1"},
		{dbOf(501, two(2, "t", rowsOf(1, 0)...), two(3, "u"), two(500, "v", rowsOf(20, 16)...)), "f503010301" + "00" + "02: 1.0 1.0 2.0 3.0 4.2 4.500 4.500"},
		{dbOf(3, wide(2)...), "0301020000: 1.0 1.0 2.0 3.0"}, {dbOf(4, wide(3)...), "040203000000: 1.0 1.0 2.0 2.0 3.0 3.0"},
		{dbOf(7, wide(6)...), "070306000000000000: 1.0 1.0 2.0 2.0 2.0 3.0 3.0 3.0"},
	} {
		pages := written(t, c.d)
		if got := places(pages); got != c.want {
			t.Errorf("%d: %s; want %s", i, got, c.want)
		}
		if pages[0][7:252] != pages[1][7:252] {
			t.Errorf("%d: the heads are not the same", i)
		}
	}
}

// U1, U2: tables and files at their limits, and one beyond them.
func TestLimits(t *testing.T) {
	// bulky has tables of so many rows each, of which two fill a page.
	bulky := func(rows ...int) []api.Table {
		l := wide(len(rows))
		for i, count := range rows {
			for k := range l[i].Schema.Cols {
				l[i].Schema.Cols[k] = api.Column{Name: fmt.Sprint("c", k)}
			}
			for id := range count {
				l[i].Rows = append(l[i].Rows, entry(int64(id+1), slices.Repeat(values{text(long(16))}, 6)...))
			}
		}
		return l
	}
	for i, c := range []struct {
		d     api.DB
		pages int
		err   api.Errno
	}{
		{dbOf(9, bulky(40, 12)...), 30, 0}, {dbOf(9, bulky(40, 13)...), 31, 0}, {dbOf(9, bulky(40, 14)...), 31, 0}, {dbOf(9, bulky(40, 15)...), 0, api.ErrMany}, {dbOf(9, bulky(40, 17)...), 0, api.ErrMany}, {dbOf(9, bulky(40, 40)...), 0, api.ErrMany}, {dbOf(9, bulky(15, 40)...), 0, api.ErrMany}, {dbOf(9, bulky(14, 40)...), 31, 0},
		{dbOf(9, bulky(40, 2, 2, 2, 2, 1)...), 31, 0}, {dbOf(9, bulky(40, 2, 2, 2, 2, 3)...), 0, api.ErrMany}, {dbOf(9, bulky(40, 40, 40, 40, 40, 40)...), 0, api.ErrMany}, {dbOf(9, bulky(40)...), 24, 0}, {dbOf(9, bulky(41)...), 0, api.ErrMany},
		{dbOf(1000, two(999, "t", entry(math.MaxInt64, null, whole(math.MinInt64)))), 5, 0}, {dbOf(7, wide(6)...), 8, 0}, {dbOf(8, wide(7)...), 0, api.ErrMany},
		{dbOf(2, two(1, "t", rowsOf(40, 0)...)), 5, 0}, {dbOf(2, two(1, "t", rowsOf(41, 0)...)), 0, api.ErrMany},
		{dbOf(2, two(1, "t", rowsOf(40, 16)...)), 8, 0}, {dbOf(2, two(1, "t", rowsOf(40, 17)...)), 0, api.ErrMany},
	} {
		pages, err := holdWrite(t, c.d)
		if err != c.err || len(pages) != c.pages {
			t.Errorf("%d: %d pages, %d; want %d, %d", i, len(pages), err, c.pages, c.err)
		}
	}
}

// U1, P1: Check of chapter 19 comes first, and nothing is told beside an error.
func TestWriteErrors(t *testing.T) {
	great := []api.Table{two(1, "t", rowsOf(40, 16)...), two(2, "u", rowsOf(40, 16)...), two(3, "v", rowsOf(40, 16)...), two(4, "w", rowsOf(40, 16)...), two(5, "x", rowsOf(40, 16)...), two(6, "y", rowsOf(40, 16)...)}
	for i := range great {
		great[i].Schema.Cols = append(great[i].Schema.Cols, api.Column{Name: "c"})
		for k := range great[i].Rows {
			great[i].Rows[k].Row = append(great[i].Rows[k].Row, text(long(16)))
		}
	}
	spoilt := plain(great)
	spoilt[5].Rows[39].Row[0] = whole(0)
	for i, c := range []struct {
		d    api.DB
		want api.Errno
	}{
		{api.DB{}, api.ErrRange}, {dbOf(-1), api.ErrRange}, {dbOf(1001), api.ErrRange}, {dbOf(math.MaxInt), api.ErrRange}, {dbOf(math.MinInt), api.ErrRange}, {dbOf(1, two(1, "t")), api.ErrState}, {dbOf(5, two(2, "t"), two(2, "u")), api.ErrState}, {dbOf(5, two(0, "t")), api.ErrRange}, {dbOf(5, two(1000, "t")), api.ErrRange},
		{dbOf(5, two(1, "T")), api.ErrForm}, {dbOf(5, table(form(1, "t"))), api.ErrForm}, {dbOf(5, two(1, "t"), two(2, "t")), api.ErrTwice}, {dbOf(5, table(form(1, "t", api.Column{Name: "a", Kind: 4}))), api.ErrKind}, {dbOf(5, table(form(1, "t", make([]api.Column, 7)...))), api.ErrMany},
		{dbOf(5, two(1, "t", entry(0, null, null))), api.ErrRange}, {dbOf(5, two(1, "t", entry(1, null))), api.ErrForm}, {dbOf(5, two(1, "t", entry(1, null, api.Value{Kind: 9}))), api.ErrKind}, {dbOf(5, two(1, "t", entry(2, null, null), entry(2, null, null))), api.ErrState}, {dbOf(5, two(1, "t", entry(1, whole(1), null), entry(2, whole(1), null))), api.ErrTwice}, {dbOf(5, table(form(1, "t", api.Column{Name: "a", NotNull: true}), entry(1, null))), api.ErrNone},
		{dbOf(7, great...), api.ErrMany}, {dbOf(6, great...), api.ErrState}, {dbOf(0, great...), api.ErrRange}, {dbOf(7, spoilt...), api.ErrTwice},
	} {
		pages, err := holdWrite(t, c.d)
		if err != c.want || len(pages) != 0 {
			t.Errorf("%d: %q, %d; want %d", i, pages, err, c.want)
		}
	}
}

// U2, U3: which heads are right: by one that is not, the one behind it is read.
func TestHeads(t *testing.T) {
	other := birds()
	other.Next = 77
	file := append(written(t, other), make([]string, 27)...)
	n := numbers
	const top = math.MaxUint64
	for i, c := range []struct {
		body  string
		right bool
	}{
		{"", false}, {n(1), false}, {n(1, 0), false}, {n(1, 0, 0), true}, {n(1, 0, 0, 0), false}, {n(1, 0, 1), false}, {n(1, 0, 1, 0), true}, {n(1, 0, 1, 0, 0), false}, {n(1, 0, 2, 0), false}, {n(0, 0, 0), false}, {n(2, 0, 0), true}, {n(999, 0, 0), true}, {n(1000, 0, 0), true}, {n(1001, 0, 0), false}, {n(top, 0, 0), false}, {n(1<<63, 0, 0), false}, {n(1<<32+1, 0, 0), false}, {n(1<<63+1, 0, 0), false},
		{n(1, 14, 0), true}, {n(1, 15, 0), false}, {n(1, 16, 0), false}, {n(1, 31, 0), false}, {n(1, 32, 0), false}, {n(1, 33, 0), false}, {n(1, 1<<63, 0), false}, {n(1, 1<<62, 0), false}, {n(1, top, 0), false}, {n(1, 1<<32, 0), false}, {n(1, top-14, 1, 29), false},
		{n(1, 0, 6, 0, 0, 0, 0, 0, 0), true}, {n(1, 0, 7, 0, 0, 0, 0, 0, 0, 0), false}, {n(1, 0, 6, 0, 0, 0, 0, 0, 0, 0), false}, {n(1, 0, 6, 0, 0, 0, 0, 0), false}, {n(1, 0, top), false}, {n(1, 0, 1<<32), false}, {n(1, 0, 1<<63), false},
		{n(1, 0, 1, 29), true}, {n(1, 0, 1, 30), false}, {n(1, 0, 1, 31), false}, {n(1, 0, 1, 32), false}, {n(1, 0, 1, 33), false}, {n(1, 0, 1, top), false}, {n(1, 0, 2, top, 1), false}, {n(1, 0, 2, 1<<63, 1<<63), false}, {n(1, 0, 2, 1<<32, 0), false}, {n(1, 14, 1, 1), true}, {n(1, 14, 1, 2), false}, {n(1, 14, 2, 1, 1), false}, {n(1, 1, 6, 4, 4, 4, 5, 5, 5), true}, {n(1, 1, 6, 4, 4, 5, 5, 5, 5), false}, {n(1, 13, 3, 1, 1, 1), true}, {n(1, 13, 3, 2, 1, 1), false},
		{"\x81\x00\x00\x00", false}, {"\x01\x80\x00\x00", false}, {"\x01\x00\x80\x00", false}, {"\x01\x00\x00\x80", false}, {"\x80", false}, {"\x01\x00\x80", false}, {"\x01\x00\x01\x80\x00", false}, {strings.Repeat("\xff", 10) + "\x00\x00", false}, {strings.Repeat("\xff", 9) + "\x02\x00\x00", false}, {"\x01\x00\x00" + strings.Repeat("\x00", 242), false}, {n(1, 0, 242) + strings.Repeat("\x00", 241), false}, {strings.Repeat("\x00", 245), false},
	} {
		pages := with(file, 0, sheet(0, 1, 0, c.body))
		d, err := hold(t, pages)
		if byOther := err == api.OK && same(d, other); byOther == c.right {
			t.Errorf("%d: %x ahead: %v, %d; want right %v", i, c.body, d, err, c.right)
		}
		pages = with(with(file, 0, ""), 1, sheet(1, 1, 0, c.body))
		alone, aloneErr := hold(t, pages)
		if !c.right && aloneErr != api.ErrSum || c.right && (aloneErr != err || !same(alone, d)) {
			t.Errorf("%d: %x alone: %v, %d; want right %v", i, c.body, alone, aloneErr, c.right)
		}
	}
}

// U2, U3: a page that is no Head of Owner 0 at its place is no head, whatever it says.
func TestNoHeads(t *testing.T) {
	file := written(t, birds())
	body := numbers(5, 0, 0)
	for _, s := range []string{"", "x", sheet(0, 2, 0, body), sheet(0, 3, 0, body), sheet(0, 4, 0, body), sheet(0, 5, 0, body), sheet(0, 0, 0, body), sheet(0, 1, 1, body), sheet(0, 1, 999, body), sheet(1, 1, 0, body), sheet(2, 1, 0, body), sheet(0, 1, 0, body)[:255], sheet(0, 1, 0, body) + "\x00", file[1], file[2], strings.Repeat("\x00", 256)} {
		if d, err := hold(t, with(file, 0, s)); err != api.OK || !same(d, birds()) {
			t.Errorf("%q: %v, %d", s, d, err)
		}
		if _, err := hold(t, with(with(file, 1, ""), 0, s)); err != api.ErrSum {
			t.Errorf("%q: %d", s, err)
		}
	}
	if d, err := hold(t, with(file, 0, sheet(0, 1, 0, body))); err != api.OK || !same(d, dbOf(5)) {
		t.Errorf("by a right head: %v, %d", d, err)
	}
	// Of two right heads the first one counts, even if nothing can be read by it.
	if _, err := hold(t, with(file, 0, sheet(0, 1, 0, numbers(5, 0, 1, 0)))); err != api.ErrSum {
		t.Errorf("by a head that tells of no forms: %d", err)
	}
}

// packed tells entries as a Body, which must be right.
func packed(l ...api.Entry) string {
	body, err := leaf.Pack(l)
	if err != api.OK {
		panic(fmt.Sprint(l, err))
	}
	return body
}

// formEntry tells a table's form as an entry.
func formEntry(id int64, name string, cols ...string) api.Entry {
	e := entry(id, text(name))
	for _, c := range cols {
		e.Row = append(e.Row, text(c))
	}
	return e
}

// U2, U3: forms of CatA, if they can be read, else those of CatB.
func TestForms(t *testing.T) {
	t2, u5 := formEntry(2, "t", "0--a"), formEntry(5, "u", "1nub")
	// fileOf has two pages of forms each time, and no rows.
	fileOf := func(next, tables uint64, forms ...string) []string {
		head := numbers(append([]uint64{next, 2, tables}, make([]uint64, tables)...)...)
		l := []string{sheet(0, 1, 0, head), sheet(1, 1, 0, head)}
		for i, body := range forms {
			l = append(l, sheet(2+i, 2+i/2, 0, body))
		}
		return l
	}
	names := func(d api.DB, err api.Errno) string {
		if err != api.OK {
			return fmt.Sprint("error ", int(err))
		}
		var l []string
		for _, x := range d.Tables {
			l = append(l, x.Schema.Name)
		}
		return strings.Join(l, " ")
	}
	none, t2u5, x9 := packed(), packed(t2, u5), packed(formEntry(2, "x", "0--a"), formEntry(9, "y", "0--a"))
	for i, c := range []struct {
		pages []string
		want  string
	}{
		{fileOf(10, 2, packed(t2), packed(u5), packed(t2), packed(u5)), "t u"}, {fileOf(10, 2, t2u5, none, x9, none), "t u"}, {fileOf(10, 2, none, t2u5, none, x9), "t u"}, {fileOf(10, 2, none, x9, t2u5, none), "x y"}, {fileOf(10, 0, none, none, none, none), ""}, {fileOf(10, 1, none, packed(t2), none, none), "t"},
		// Too few, too many, not rising, not of the form.
		{fileOf(10, 2, packed(t2), none, x9, none), "x y"}, {fileOf(10, 1, t2u5, none, packed(u5), none), "u"}, {fileOf(10, 2, packed(u5), packed(t2), x9, none), "x y"}, {fileOf(10, 2, packed(t2), packed(t2), x9, none), "x y"}, {fileOf(10, 2, t2u5, packed(t2), x9, none), "x y"}, {fileOf(10, 0, packed(t2), none, none, none), ""}, {fileOf(10, 3, t2u5, none, x9, none), "error 11"}, {fileOf(10, 1, t2u5, none, x9, none), "error 11"}, {fileOf(10, 0, t2u5, none, x9, none), "error 11"},
		{fileOf(10, 2, packed(t2, entry(3)), none, x9, none), "x y"}, {fileOf(10, 2, packed(t2, formEntry(3, "t", "0--a")), none, x9, none), "x y"}, {fileOf(10, 2, packed(t2, formEntry(3, "u")), none, x9, none), "x y"}, {fileOf(10, 2, packed(t2, formEntry(3, "u", "4--a")), none, x9, none), "x y"}, {fileOf(10, 2, packed(t2, formEntry(1000, "u", "0--a")), none, x9, none), "x y"}, {fileOf(10, 2, packed(t2, formEntry(3, "set", "0--a")), none, x9, none), "x y"},
		{fileOf(10, 2, t2u5, "", x9, none), "x y"}, {fileOf(10, 2, t2u5, "\x00\x00", x9, none), "x y"}, {fileOf(10, 2, t2u5[:len(t2u5)-1], none, x9, none), "x y"}, {fileOf(10, 2, t2u5, "\x29", x9, none), "x y"}, {fileOf(10, 2, t2u5, "", x9, ""), "error 11"}, {fileOf(10, 2, t2u5, "", x9), "error 11"}, {fileOf(10, 2, t2u5, none), "t u"}, {fileOf(10, 2), "error 11"},
		// Of both only one counts, even if Next is right for the other one alone.
		{fileOf(9, 2, x9, none, t2u5, none), "error 11"}, {fileOf(10, 2, x9, none, t2u5, none), "x y"}, {fileOf(6, 2, t2u5, none, x9, none), "t u"}, {fileOf(5, 2, t2u5, none, t2u5, none), "error 11"}, {fileOf(3, 2, t2u5, none, t2u5, none), "error 11"}, {fileOf(2, 1, packed(t2), none, none, none), "error 11"}, {fileOf(3, 1, packed(t2), none, none, none), "t"},
	} {
		if got := names(hold(t, c.pages)); got != c.want {
			t.Errorf("%d: %s; want %s", i, got, c.want)
		}
	}
	right := fileOf(10, 2, t2u5, none, x9, none)
	for _, s := range []string{"", sheet(2, 3, 0, t2u5), sheet(2, 4, 0, t2u5), sheet(2, 1, 0, t2u5), sheet(2, 2, 1, t2u5), sheet(2, 2, 2, t2u5), sheet(3, 2, 0, t2u5), sheet(4, 2, 0, t2u5)} {
		if got := names(hold(t, with(right, 2, s))); got != "x y" {
			t.Errorf("%q: %s", s, got)
		}
		if got := names(hold(t, with(with(right, 2, s), 4, sheet(4, 2, 0, x9)))); got != "error 11" {
			t.Errorf("%q, and CatA at the place of CatB: %s", s, got)
		}
		if got := names(hold(t, with(with(right, 2, s), 5, sheet(5, 3, 1, none)))); got != "error 11" {
			t.Errorf("%q, and CatB of another Owner: %s", s, got)
		}
	}
}

// U2, U3: rows that can't be read are told of their table alone, and of all of them together.
func TestRows(t *testing.T) {
	a, b := api.Column{Name: "a", Kind: api.Int, NotNull: true}, api.Column{Name: "b", Unique: true}
	d := dbOf(9, table(form(3, "t", a, b), entry(1, whole(1), null)), table(form(7, "u", a, b), entry(1, whole(1), null)))
	forms, _ := bodyAt(written(t, d), 2, 2, 0)
	head := numbers(9, 1, 2, 2, 1)
	u := sheet(6, 4, 7, packed(d.Tables[1].Rows...))
	row := func(id int64, l ...api.Value) api.Entry { return entry(id, append(values{whole(1)}, l...)...) }
	many := func(from, n int64) []api.Entry {
		var l []api.Entry
		for id := range n {
			l = append(l, row(from+id, null))
		}
		return l
	}
	four := func(body string) string { return sheet(4, 4, 3, body) }
	five := func(l ...api.Entry) string { return sheet(5, 4, 3, packed(l...)) }
	for i, c := range []struct {
		first, second string
		rows          int
	}{
		{four(packed()), five(), 0}, {four(packed(row(1, null))), five(), 1}, {four(packed()), five(row(1, null)), 1}, {four(packed(row(1, null))), five(row(2, null)), 2}, {four(packed(many(1, 20)...)), five(many(21, 20)...), 40}, {four(packed(many(1, 40)...)), five(), 40}, {four(packed(row(1, text("x")))), five(row(math.MaxInt64, blob("x"))), 2},
		{four(packed(many(1, 20)...)), five(many(21, 21)...), -1}, {four(packed(many(1, 40)...)), five(row(41, null)), -1}, {four(packed(row(2, null))), five(row(2, null)), -1}, {four(packed(row(2, null))), five(row(1, null)), -1}, {four(packed(row(1, text("x")))), five(row(2, text("x"))), -1}, {four(packed(row(1, text("x")), row(2, text("x")))), five(), -1}, {four(packed(row(1))), five(), -1}, {four(packed(row(1, null, null))), five(), -1}, {four(packed(entry(1, null, null))), five(), -1}, {four(packed(entry(1, text("x"), null))), five(), -1}, {four(packed(row(1, null))), five(entry(2)), -1},
		{four(""), five(), -1}, {four("\x00\x00"), five(), -1}, {four("\x01"), five(), -1}, {four("\x29"), five(), -1}, {four("\x01\x00\x02\x01\x02\x00"), five(), -1}, {four("\x01\x02\x02\x01\x02"), five(), -1}, {"", five(), -1}, {"x", five(), -1}, {four(packed()), "", -1},
		{sheet(4, 3, 3, packed()), five(), -1}, {sheet(4, 1, 3, packed()), five(), -1}, {sheet(4, 2, 3, packed()), five(), -1}, {sheet(4, 5, 3, packed()), five(), -1}, {sheet(4, 4, 7, packed()), five(), -1}, {sheet(4, 4, 0, packed()), five(), -1}, {sheet(4, 4, 259, packed()), five(), -1}, {sheet(5, 4, 3, packed()), five(), -1}, {five(), four(packed()), -1}, {four(packed()), sheet(5, 4, 7, packed()), -1},
	} {
		pages := []string{sheet(0, 1, 0, head), sheet(1, 1, 0, head), sheet(2, 2, 0, forms), sheet(3, 3, 0, forms), c.first, c.second, u}
		d, err := hold(t, pages)
		x, tableErr := holdTable(t, pages, "t")
		want := api.OK
		if c.rows < 0 {
			want = api.ErrSum
		}
		if err != want || tableErr != want || len(x.Rows) != max(0, c.rows) || err == api.OK && !same(d.Tables[0], x) {
			t.Errorf("%d: %d; %d rows, %d; want %d, %d", i, err, len(x.Rows), tableErr, c.rows, want)
		}
		if x, err := holdTable(t, pages, "u"); err != api.OK || len(x.Rows) != 1 {
			t.Errorf("%d: of the other table %v, %d", i, x, err)
		}
		if _, err := holdTable(t, pages, "v"); err != api.ErrNone {
			t.Errorf("%d: of no table %d", i, err)
		}
	}
}

// U3, P1: how many pages there are comes first, then head and forms, then whether there is a table, then its rows.
func TestReadErrors(t *testing.T) {
	right := written(t, birds())
	headless := with(with(right, 0, ""), 1, "")
	formless := with(with(right, 2, ""), 3, "")
	low := numbers(1, 1, 1, 1)
	lowNext := with(with(right, 0, sheet(0, 1, 0, low)), 1, sheet(1, 1, 0, low))
	to := func(pages []string, n int) []string {
		return append(slices.Clone(pages), make([]string, n-len(pages))...)
	}
	for i, c := range []struct {
		pages             []string
		all, table, other api.Errno
	}{
		{right, 0, 0, api.ErrNone}, {to(right, 32), 0, 0, api.ErrNone}, {to(right, 33), api.ErrMany, api.ErrMany, api.ErrMany}, {to(right, 1<<16), api.ErrMany, api.ErrMany, api.ErrMany}, {make([]string, 33), api.ErrMany, api.ErrMany, api.ErrMany}, {slices.Repeat([]string{long(300)}, 33), api.ErrMany, api.ErrMany, api.ErrMany},
		{nil, api.ErrSum, api.ErrSum, api.ErrSum}, {[]string{}, api.ErrSum, api.ErrSum, api.ErrSum}, {make([]string, 32), api.ErrSum, api.ErrSum, api.ErrSum}, {right[:1], api.ErrSum, api.ErrSum, api.ErrSum}, {right[:2], api.ErrSum, api.ErrSum, api.ErrSum}, {right[:3], api.ErrSum, api.ErrSum, api.ErrNone}, {right[:4], api.ErrSum, api.ErrSum, api.ErrNone}, {right[1:], api.ErrSum, api.ErrSum, api.ErrSum}, {[]string{strings.Repeat("\x00", 1<<20)}, api.ErrSum, api.ErrSum, api.ErrSum},
		{headless, api.ErrSum, api.ErrSum, api.ErrSum}, {formless, api.ErrSum, api.ErrSum, api.ErrSum}, {lowNext, api.ErrSum, api.ErrSum, api.ErrSum}, {with(right, 4, ""), api.ErrSum, api.ErrSum, api.ErrNone}, {written(t, dbOf(1)), 0, api.ErrNone, api.ErrNone}, {written(t, dbOf(1))[:1], 0, api.ErrNone, api.ErrNone},
	} {
		d, err := hold(t, c.pages)
		if err != c.all || err != api.OK && !same(d, api.DB{}) {
			t.Errorf("%d: Read: %v, %d; want %d", i, d, err, c.all)
		}
		x, err := holdTable(t, c.pages, "birds")
		if err != c.table || err != api.OK && !same(x, api.Table{}) {
			t.Errorf("%d: ReadTable: %v, %d; want %d", i, x, err, c.table)
		}
		for _, name := range []string{"", "bird", "birdss", "Birds", "birds ", "id", "set", "\x00", long(1 << 16)} {
			if x, err := holdTable(t, c.pages, name); err != c.other || !same(x, api.Table{}) {
				t.Errorf("%d: ReadTable of %.20q: %v, %d; want %d", i, name, x, err, c.other)
			}
		}
	}
}

// U3: what stands behind the pages that the head tells of is not looked at.
func TestBehind(t *testing.T) {
	right := written(t, birds())
	other := two(1, "birds", rowsOf(3, 2)...)
	for _, s := range []string{"", "x", long(256), sheet(5, 4, 1, packed(entry(9, whole(9), null))), sheet(5, 2, 0, packed(formEntry(9, "x", "0--a"))), sheet(5, 1, 0, numbers(9, 0, 0)), right[4]} {
		if d, err := hold(t, append(slices.Clone(right), s, s, written(t, dbOf(2, other))[4])); err != api.OK || !same(d, birds()) {
			t.Errorf("%q behind: %v, %d", s, d, err)
		}
	}
}

// files has tables of all kinds, none of them with more pages than can be damaged in each way.
func files() []api.DB {
	return []api.DB{
		dbOf(1), birds(), dbOf(1000, two(999, "t")),
		dbOf(9, two(2, "t", rowsOf(20, 16)...), two(4, "u"), two(7, "v", rowsOf(5, 3)...)),
		dbOf(4, append(wide(2), two(3, "t", rowsOf(3, 0)...))...),
	}
}

// damages tells a page that can't be opened, in several ways.
func damages(s string) []string {
	turned := []byte(s)
	turned[40] ^= 1
	return []string{"", s[:255], string(turned), sheet(31, int(s[2]), int(s[3])<<8+int(s[4]), s[7:7+s[6]]), strings.Repeat("\x00", 256)}
}

// U4: whichever pages are damaged, what is read is what was written, or ErrSum; and each table whose own pages, a head, and one of both forms are not damaged.
func TestDamaged(t *testing.T) {
	for _, d := range files() {
		pages := written(t, d)
		head := modelHead(pages, 0)
		size := int(head[1])
		for hurt := range 1 << len(pages) {
			l := slices.Clone(pages)
			for no := range l {
				if hurt>>no&1 == 1 {
					l[no] = damages(l[no])[(hurt+no)%5]
				}
			}
			isWhole := func(from, n int) bool { return hurt>>from&(1<<n-1) == 0 }
			known := (isWhole(0, 1) || isWhole(1, 1)) && (isWhole(2, size) || isWhole(2+size, size))
			at, all := 2+2*size, known
			for i, x := range d.Tables {
				own := isWhole(at, int(head[3+i]))
				at += int(head[3+i])
				all = all && own
				got, err := ReadTable(l, x.Schema.Name)
				if known && own && (err != api.OK || !same(got, x)) || !(known && own) && (err != api.ErrSum || !same(got, api.Table{})) {
					t.Fatalf("%b of %v: %s: %v, %d", hurt, d, x.Schema.Name, got, err)
				}
			}
			got, err := Read(l)
			if all && (err != api.OK || !same(got, d)) || !all && (err != api.ErrSum || !same(got, api.DB{})) {
				t.Fatalf("%b of %v: %v, %d", hurt, d, got, err)
			}
		}
	}
}

// U4: each byte of a file turned, each two pages of it changed with one another: what is read is what was written, or ErrSum.
func TestTurned(t *testing.T) {
	for _, d := range files() {
		pages := written(t, d)
		check := func(l []string, what ...any) {
			if got, err := Read(l); err != api.ErrSum && (err != api.OK || !same(got, d)) {
				t.Fatalf("%v of %v: %v, %d", what, d, got, err)
			}
		}
		for no, s := range pages {
			for at := range len(s) {
				b := []byte(s)
				b[at] ^= 1 << (at % 8)
				check(with(pages, no, string(b)), "byte", no, at)
			}
			for other := range pages {
				check(with(with(pages, no, pages[other]), other, s), "pages", no, other)
				check(with(pages, no, pages[other]), "page", no, other)
			}
			check(pages[:no], "cut", no)
		}
	}
}

// U1, U3: drawn tables: what is written is read as it was.
func TestDrawnTables(t *testing.T) {
	d := draw(1)
	counts := map[api.Errno]int{}
	for range 1500 {
		_, err := holdWrite(t, drawnDB(&d))
		counts[err]++
	}
	if counts[api.OK] < 900 || counts[api.ErrMany] < 20 {
		t.Errorf("drawn too few: %v", counts)
	}
}

// U2 to U4, P1: drawn files, damaged or with other pages.
func TestDrawnPages(t *testing.T) {
	d := draw(2)
	counts := map[string]int{}
	for range 6000 {
		pages := drawnFile(&d)
		was, _ := Read(pages)
		spoilt := spoil(&d, pages)
		got, err := hold(t, spoilt)
		switch {
		case err != api.OK:
			counts["hurt"]++
			if slices.ContainsFunc(was.Tables, func(x api.Table) bool {
				one, err := ReadTable(spoilt, x.Schema.Name)
				return err == api.OK && same(one, x)
			}) {
				counts["partly"]++
			}
		case same(got, was):
			counts["as it was"]++
		default:
			counts["otherwise"]++
		}
	}
	for what, least := range map[string]int{"hurt": 1000, "partly": 300, "as it was": 1000, "otherwise": 50} {
		if counts[what] < least {
			t.Errorf("%s: drawn too few: %v", what, counts)
		}
	}
}

// U3: pages of any bytes.
func TestAnyBytes(t *testing.T) {
	d := draw(3)
	for range 2000 {
		l := make([]string, d.below(34))
		for i := range l {
			b := make([]byte, 254+d.below(4))
			for k := range b {
				b[k] = byte(d.next() >> 20)
			}
			l[i] = string(b)
			if d.coin() {
				l[i] = sheet(i, 1+d.below(4), d.below(2), string(b[:d.below(246)]))
			}
		}
		hold(t, l)
	}
}

// P2: what is handed in stays what it was, the room behind it too; what is answered is new memory, no two lists of it share any, and a later change is not seen in it.
func TestOnlyRead(t *testing.T) {
	d := draw(4)
	for range 1000 {
		x := roomy(drawnDB(&d))
		was := entirely(x)
		pages, err := Write(x)
		want, wanted := modelWrite(x)
		if entirely(x) != was || shared(pages, x) {
			t.Fatalf("Write: %s has become %s, or memory is shared", was, entirely(x))
		}
		scribble(reflect.ValueOf(&x).Elem())
		if err != wanted || !slices.Equal(pages, want) {
			t.Fatalf("Write: a change is seen in what was answered: %q", pages)
		}
	}
	for range 1000 {
		pages := roomy(drawnFile(&d))
		if d.coin() {
			pages = roomy(spoil(&d, pages))
		}
		was := entirely(pages)
		all, err := Read(pages)
		one, oneErr := ReadTable(pages, "t")
		again, _ := ReadTable(pages, "t")
		want, wanted := modelRead(pages)
		wantOne, wantedOne := modelReadTable(pages, "t")
		if entirely(pages) != was || shared(all, pages, one, again) || shared(one, pages, again) {
			t.Fatalf("Read: %s has become %s, or memory is shared", was, entirely(pages))
		}
		scribble(reflect.ValueOf(&pages).Elem())
		scribble(reflect.ValueOf(&again).Elem())
		if err != wanted || oneErr != wantedOne || !same(all, want) || !same(one, wantOne) {
			t.Fatalf("Read: a change is seen in what was answered: %v, %v", all, one)
		}
	}
}

// P2: one list that is handed in often, and lists that are nil or only empty.
func TestOneListOften(t *testing.T) {
	row := values{whole(1), null}
	l := []api.Entry{{Id: 1, Row: row}, {Id: 2, Row: row}}
	cols := []api.Column{{Name: "a"}, {Name: "b"}}
	d := dbOf(5, table(form(1, "t", cols...), l...), table(form(2, "u", cols...), l...), table(form(3, "v", cols...), []api.Entry{}...))
	pages := written(t, d)
	got, err := Read(pages)
	if err != api.OK || shared(got, d, pages) {
		t.Errorf("%v, %d", got, err)
	}
	empty := written(t, api.DB{Next: 4, Tables: []api.Table{}})
	if !slices.Equal(empty, written(t, api.DB{Next: 4})) {
		t.Errorf("%q", empty)
	}
}

// P3: whatever was asked ahead of it, and whoever asks at the same time.
func TestNothingIsKept(t *testing.T) {
	common := birds()
	file := written(t, common)
	var hands sync.WaitGroup
	for seed := range 4 {
		hands.Go(func() {
			d := draw(60 + seed)
			for range 200 {
				x, pages := drawnDB(&d), spoil(&d, drawnFile(&d))
				if d.coin() {
					x, pages = common, file
				}
				want, wanted := modelWrite(x)
				all, allErr := modelRead(pages)
				one, oneErr := modelReadTable(pages, "t")
				for range 2 {
					if got, err := Write(x); err != wanted || !slices.Equal(got, want) {
						t.Errorf("Write(%v) = %q, %d; want %q, %d", x, got, err, want, wanted)
					}
					if got, err := Read(pages); err != allErr || !same(got, all) {
						t.Errorf("Read(%q) = %v, %d; want %v, %d", pages, got, err, all, allErr)
					}
					if got, err := ReadTable(pages, "t"); err != oneErr || !same(got, one) {
						t.Errorf("ReadTable(%q) = %v, %d; want %v, %d", pages, got, err, one, oneErr)
					}
				}
			}
		})
	}
	hands.Wait()
}

// U1, U3: tables that are read are right, so that they can be written once more, as they stood.
func TestWrittenOnceMore(t *testing.T) {
	d := draw(5)
	for range 1000 {
		pages := drawnFile(&d)
		x, err := Read(pages)
		if err != api.OK || db.Check(x) != api.OK {
			t.Fatalf("%q: %v, %d", pages, x, err)
		}
		if again, err := Write(x); err != api.OK || !slices.Equal(again, pages) {
			t.Fatalf("%q is written once more as %q, %d", pages, again, err)
		}
	}
}

package salvage

import (
	"fmt"
	"math"
	"reflect"
	"slices"
	"strings"
	"sync"
	"testing"

	"starling/api"
	"starling/layout"
	"starling/leaf"
	"starling/value"
)

// show tells what was saved: Next, table by table its Id, its name and its rows; and what is lost.
func show(d api.DB, lost []api.Lost) string {
	row := func(e api.Entry) string {
		l := []string{fmt.Sprint(e.Id, ":")}
		for _, v := range e.Row {
			s, _ := value.Show(v)
			l = append(l, s)
		}
		return strings.Join(l, " ")
	}
	out := []string{fmt.Sprint(d.Next)}
	for _, t := range d.Tables {
		var rows []string
		for _, e := range t.Rows {
			rows = append(rows, row(e))
		}
		out = append(out, fmt.Sprintf("%d %s(%s)", t.Schema.Id, t.Schema.Name, strings.Join(rows, ", ")))
	}
	for _, l := range lost {
		out = append(out, fmt.Sprint("lost ", l.Table, " ", row(l.Entry)))
	}
	return strings.Join(out, "; ")
}

// said saves pages, and tells what is saved, or the number of the error.
func said(t *testing.T, pages []string) string {
	t.Helper()
	d, lost, err := hold(t, pages)
	if err != api.OK {
		return fmt.Sprint("error ", int(err))
	}
	return show(d, lost)
}

// birds: the table of the document's example.
func birds() api.DB {
	s := form(1, "birds", api.Column{Name: "id", Kind: api.Int, NotNull: true, Unique: true}, api.Column{Name: "name", Kind: api.Text})
	return dbOf(2, table(s, entry(1, whole(1), text("wren")), entry(2, whole(2), text("rook"))))
}

// V1 to V5: the document's example.
func TestExample(t *testing.T) {
	pages := written(t, birds())
	for _, c := range []struct {
		hurt []int
		want string
	}{
		{nil, "2; 1 birds(1: 1 'wren', 2: 2 'rook')"}, {[]int{0}, "2; 1 birds(1: 1 'wren', 2: 2 'rook')"}, {[]int{0, 4}, "2; 1 birds()"}, {[]int{0, 1}, "2; 1 birds(1: 1 'wren', 2: 2 'rook')"}, {[]int{2}, "2; 1 birds(1: 1 'wren', 2: 2 'rook')"}, {[]int{3}, "2; 1 birds(1: 1 'wren', 2: 2 'rook')"},
		{[]int{2, 3}, "2; lost 1 1: 1 'wren'; lost 1 2: 2 'rook'"}, {[]int{0, 1, 2, 3}, "2; lost 1 1: 1 'wren'; lost 1 2: 2 'rook'"}, {[]int{2, 3, 4}, "2"}, {[]int{0, 1, 2, 3, 4}, "1"}, {[]int{0, 1, 4}, "2; 1 birds()"},
	} {
		l := slices.Clone(pages)
		for _, no := range c.hurt {
			l[no] = ""
		}
		if got := said(t, l); got != c.want {
			t.Errorf("without %v: %s; want %s", c.hurt, got, c.want)
		}
	}
	if d, lost, err := hold(t, pages); err != api.OK || len(lost) != 0 || !same(d, birds()) {
		t.Errorf("%v, %v, %d", d, lost, err)
	}
}

// V1, P1: there is an error only if there are too many pages, and nothing is told beside it.
func TestErrors(t *testing.T) {
	right := written(t, birds())
	to := func(pages []string, n int) []string {
		return append(slices.Clone(pages), make([]string, n-len(pages))...)
	}
	for i, c := range []struct {
		pages []string
		want  string
	}{
		{nil, "1"}, {[]string{}, "1"}, {make([]string, 1), "1"}, {make([]string, 32), "1"}, {make([]string, 33), "error 2"}, {make([]string, 1<<20), "error 2"}, {to(right, 32), "2; 1 birds(1: 1 'wren', 2: 2 'rook')"}, {to(right, 33), "error 2"},
		{slices.Repeat([]string{"x"}, 32), "1"}, {slices.Repeat([]string{long(256)}, 32), "1"}, {slices.Repeat([]string{strings.Repeat("\x00", 256)}, 32), "1"}, {[]string{long(1 << 20)}, "1"},
	} {
		d, lost, err := Save(c.pages)
		if got := said(t, c.pages); got != c.want || err != api.OK && (!same(d, api.DB{}) || len(lost) != 0) {
			t.Errorf("%d: %s; want %s", i, got, c.want)
		}
	}
}

// file seals pages at their places, one behind the other.
func file(l ...api.Page) []string {
	var pages []string
	for _, p := range l {
		pages = append(pages, sheet(len(pages), p.Kind, p.Owner, p.Body))
	}
	return pages
}

func catA(l ...api.Entry) api.Page { return api.Page{Kind: api.CatA, Body: packed(l...)} }
func catB(l ...api.Entry) api.Page { return api.Page{Kind: api.CatB, Body: packed(l...)} }
func rows(owner int, l ...api.Entry) api.Page {
	return api.Page{Kind: api.Leaf, Owner: owner, Body: packed(l...)}
}
func raw(kind, owner int, body string) api.Page {
	return api.Page{Kind: kind, Owner: owner, Body: body}
}

// V1: only pages that stand at their places, and are not damaged, are looked at.
func TestPlaces(t *testing.T) {
	right := file(raw(api.Head, 0, numbers(50, 0, 0)), catA(formEntry(3, "t", "0--a")), catB(formEntry(5, "u", "0--a")), rows(3, entry(1, null)), rows(5, entry(1, null)), rows(7, entry(1, null)))
	for i, c := range []struct {
		pages []string
		want  string
	}{
		{right, "50; 3 t(1: NULL); 5 u(1: NULL); lost 7 1: NULL"}, {with(right, 0, right[1]), "8; 3 t(1: NULL); 5 u(1: NULL); lost 7 1: NULL"}, {with(right, 1, right[2]), "50; 5 u(1: NULL); lost 3 1: NULL; lost 7 1: NULL"}, {with(right, 2, right[1]), "50; 3 t(1: NULL); lost 5 1: NULL; lost 7 1: NULL"}, {with(right, 3, right[4]), "50; 3 t(); 5 u(1: NULL); lost 7 1: NULL"}, {with(right, 5, right[4]), "50; 3 t(1: NULL); 5 u(1: NULL)"},
		{right[1:], "1"}, {append([]string{""}, right...), "1"}, {right[:3], "50; 3 t(); 5 u()"}, {with(right, 4, right[4]+"\x00"), "50; 3 t(1: NULL); 5 u(); lost 7 1: NULL"}, {with(right, 4, right[4][:255]), "50; 3 t(1: NULL); 5 u(); lost 7 1: NULL"}, {with(right, 4, strings.Replace(right[4], "\x01", "\x02", 1)), "50; 3 t(1: NULL); 5 u(); lost 7 1: NULL"},
		{with(right, 4, sheet(4, 5, 5, packed(entry(1, null)))), "50; 3 t(1: NULL); 5 u(); lost 7 1: NULL"}, {with(right, 4, sheet(4, 4, 1000, packed(entry(1, null)))), "50; 3 t(1: NULL); 5 u(); lost 7 1: NULL"}, {with(right, 4, sheet(4, 4, 999, packed(entry(1, null)))), "1000; 3 t(1: NULL); 5 u(); lost 999 1: NULL; lost 7 1: NULL"},
	} {
		if got := said(t, c.pages); got != c.want {
			t.Errorf("%d: %s; want %s", i, got, c.want)
		}
	}
	// Each place is looked at, the last one too.
	for no := range 32 {
		l := make([]string, 32)
		l[no] = sheet(no, api.Leaf, 4, packed(entry(9, null)))
		if got := said(t, l); got != "5; lost 4 9: NULL" {
			t.Errorf("%d: %s", no, got)
		}
		l[no] = sheet(no, api.CatB, 0, packed(formEntry(4, "t", "0--a")))
		if got := said(t, l); got != "5; 4 t()" {
			t.Errorf("%d: %s", no, got)
		}
	}
}

// V2: which forms are taken: those of CatA first, page by page, each by itself, none with the Id or the Name of another.
func TestForms(t *testing.T) {
	f := func(id int64, name string) api.Entry { return formEntry(id, name, "0--a") }
	six := []api.Entry{f(1, "a"), f(2, "b"), f(3, "c"), f(4, "d"), f(5, "e"), f(6, "f")}
	for i, c := range []struct {
		pages []string
		want  string
	}{
		{file(catA(f(2, "t"))), "3; 2 t()"}, {file(catB(f(2, "t"))), "3; 2 t()"}, {file(catA(f(2, "t")), catB(f(2, "t"))), "3; 2 t()"}, {file(catA()), "1"}, {file(catA(), catB(), catA(f(999, "t"))), "1000; 999 t()"},
		// The same Id, the same Name: the first one counts, and that of CatA, wherever it stands.
		{file(catA(f(2, "t")), catA(f(2, "u"))), "3; 2 t()"}, {file(catA(f(2, "t")), catA(f(3, "t"))), "3; 2 t()"}, {file(catA(f(2, "t"), f(3, "t"), f(4, "u"))), "5; 2 t(); 4 u()"}, {file(catB(f(2, "t")), catA(f(2, "u"))), "3; 2 u()"}, {file(catB(f(2, "t")), catA(f(3, "t"))), "4; 3 t()"}, {file(catB(f(2, "t"), f(3, "u")), catB(f(1, "u")), catA(f(3, "x"))), "4; 1 u(); 2 t(); 3 x()"}, {file(catB(f(2, "t")), catB(f(2, "u")), catB(f(1, "t"))), "3; 2 t()"}, {file(catA(f(2, "t")), catA(f(3, "t")), catB(f(3, "u"))), "4; 2 t(); 3 u()"},
		// Tables stand by their Ids, wherever they were found.
		{file(catA(f(9, "a")), catA(f(3, "b"), f(10, "c")), catB(f(1, "d"), f(4, "e"))), "11; 1 d(); 3 b(); 4 e(); 9 a(); 10 c()"},
		// Only pages of Owner 0 that can be unpacked.
		{file(raw(api.CatA, 1, packed(f(2, "t")))), "1"}, {file(raw(api.CatB, 1, packed(f(2, "t")))), "1"}, {file(raw(api.CatA, 2, packed(f(2, "t"))), catB(f(2, "u"))), "3; 2 u()"}, {file(raw(api.CatB, 999, packed(f(2, "t"))), catB(f(2, "u"))), "3; 2 u()"}, {file(raw(api.CatA, 0, packed(f(2, "t"))+"\x00")), "1"}, {file(raw(api.CatB, 0, packed(f(2, "t"))[:10])), "1"}, {file(raw(api.CatA, 0, "")), "1"}, {file(raw(api.CatA, 0, "\x01\x00\x02\x02\x01t\x02\x040--a")), "1"}, {file(raw(api.Head, 0, packed(f(2, "t")))), "1"}, {file(rows(0, f(2, "t"))), "1; lost 0 2: 't' '0--a'"},
		// Each entry by itself: what is no form is left out, and nothing else.
		{file(catA(f(2, "t"), entry(3), f(4, "u"))), "5; 2 t(); 4 u()"}, {file(catA(entry(1, text("t")), f(2, "t"))), "3; 2 t()"}, {file(catA(f(999, "t"), f(1000, "u"))), "1000; 999 t()"}, {file(catA(f(math.MaxInt64, "t"))), "1"}, {file(catA(f(1<<32+2, "t"), f(1<<62, "u"))), "1"}, {file(catA(f(2, "T"), f(3, ""), f(4, "set"), f(5, "t\x00"), f(6, "9"))), "1"}, {file(catA(formEntry(2, "t", "4--a"), formEntry(3, "u", "0--a", "0--a"), formEntry(4, "v", "0-a"), formEntry(5, "w", "0--"))), "1"}, {file(catA(formEntry(2, "t", "0--a", "1--b", "2--c", "3--d", "0n-e", "0-uf"))), "3; 2 t()"}, {file(catA(formEntry(2, "t", "0--a", "1--b", "2--c", "3--d", "0n-e", "0-uf", "0--g"))), "1"}, {file(catA(entry(2, text("t"), whole(1)), entry(3, blob("u"), text("0--a")), entry(4, null))), "1"},
		// What was left out stands in nobody's way.
		{file(catA(f(2, "t"), f(3, "t")), catA(f(3, "u"))), "4; 2 t(); 3 u()"}, {file(catA(formEntry(2, "t", "9--a")), catB(f(2, "t"))), "3; 2 t()"},
		// Six, and one more.
		{file(catA(six[:5]...)), "6; 1 a(); 2 b(); 3 c(); 4 d(); 5 e()"}, {file(catA(six...)), "7; 1 a(); 2 b(); 3 c(); 4 d(); 5 e(); 6 f()"}, {file(catA(six...), catA(f(7, "g"))), "7; 1 a(); 2 b(); 3 c(); 4 d(); 5 e(); 6 f()"}, {file(catB(f(7, "g")), catA(six...)), "7; 1 a(); 2 b(); 3 c(); 4 d(); 5 e(); 6 f()"}, {file(catB(f(7, "g"), f(8, "h")), catA(six[:5]...)), "8; 1 a(); 2 b(); 3 c(); 4 d(); 5 e(); 7 g()"}, {file(catA(f(900, "g")), catA(six...), rows(6, entry(1, null))), "901; 1 a(); 2 b(); 3 c(); 4 d(); 5 e(); 900 g(); lost 6 1: NULL"},
	} {
		if got := said(t, c.pages); got != c.want {
			t.Errorf("%d: %s; want %s", i, got, c.want)
		}
	}
	d, _, _ := hold(t, file(catB(formEntry(2, "t", "1n-b")), catA(formEntry(2, "t", "2-ua", "3--b"))))
	if want := form(2, "t", api.Column{Name: "a", Kind: api.Text, Unique: true}, api.Column{Name: "b", Kind: api.Blob}); len(d.Tables) != 1 || !same(d.Tables[0].Schema, want) {
		t.Errorf("%v; want %v", d, want)
	}
}

// V3: which rows come to their table, and which are lost.
func TestRows(t *testing.T) {
	// Two columns, the first one an Int that is NotNull and Unique, the second one Unique.
	two := catA(formEntry(2, "t", "1nua", "0-ub"), formEntry(4, "u", "0--a"))
	row := func(id, a int64, b api.Value) api.Entry { return entry(id, whole(a), b) }
	for i, c := range []struct {
		pages []string
		want  string
	}{
		{file(two, rows(2, row(1, 1, null), row(2, 2, null))), "5; 2 t(1: 1 NULL, 2: 2 NULL); 4 u()"}, {file(rows(2, row(1, 1, null)), two), "5; 2 t(1: 1 NULL); 4 u()"}, {file(two, rows(2)), "5; 2 t(); 4 u()"},
		// Rows stand by their Ids, wherever they were found.
		{file(two, rows(2, row(5, 1, null), row(9, 2, null)), rows(4, entry(3, null)), rows(2, row(1, 3, null), row(7, 4, null), row(math.MaxInt64, 5, null)), rows(4, entry(1, null))), "5; 2 t(1: 3 NULL, 5: 1 NULL, 7: 4 NULL, 9: 2 NULL, 9223372036854775807: 5 NULL); 4 u(1: NULL, 3: NULL)"},
		// The Id of another one, a value of another one; the first one counts.
		{file(two, rows(2, row(1, 1, null)), rows(2, row(1, 2, null), row(2, 3, null))), "5; 2 t(1: 1 NULL, 2: 3 NULL); 4 u(); lost 2 1: 2 NULL"}, {file(two, rows(2, row(2, 1, null)), rows(2, row(1, 1, null))), "5; 2 t(2: 1 NULL); 4 u(); lost 2 1: 1 NULL"}, {file(two, rows(2, row(1, 1, text("x")), row(2, 2, text("x")), row(3, 3, blob("x")))), "5; 2 t(1: 1 'x', 3: 3 x'78'); 4 u(); lost 2 2: 2 'x'"}, {file(two, rows(2, row(1, 1, whole(2)), row(2, 2, whole(1)), row(3, 3, whole(3)))), "5; 2 t(1: 1 2, 2: 2 1, 3: 3 3); 4 u()"}, {file(two, rows(2, row(1, 1, null), row(2, 2, null), row(3, 3, null))), "5; 2 t(1: 1 NULL, 2: 2 NULL, 3: 3 NULL); 4 u()"}, {file(two, rows(4, entry(1, whole(1)), entry(2, whole(1))), rows(4, entry(2, whole(2)))), "5; 2 t(); 4 u(1: 1, 2: 1); lost 4 2: 2"}, {file(two, rows(2, row(1, 1, text("")), row(2, 2, blob("")), row(3, 3, whole(0)), row(4, 4, text("")))), "5; 2 t(1: 1 '', 2: 2 x'', 3: 3 0); 4 u(); lost 2 4: 4 ''"},
		// The same Id and values in another table.
		{file(two, rows(2, row(1, 1, null)), rows(4, entry(1, whole(1)))), "5; 2 t(1: 1 NULL); 4 u(1: 1)"},
		// What does not fit.
		{file(two, rows(2, entry(1), entry(2, whole(1)), row(3, 1, null), entry(4, whole(2), null, null), entry(5, null, null), entry(6, text("x"), null), entry(7, blob("x"), null))), "5; 2 t(3: 1 NULL); 4 u(); lost 2 1:; lost 2 2: 1; lost 2 4: 2 NULL NULL; lost 2 5: NULL NULL; lost 2 6: 'x' NULL; lost 2 7: x'78' NULL"},
		// What is lost stands in nobody's way.
		{file(two, rows(2, entry(1, null, text("x"))), rows(2, row(1, 1, text("x")))), "5; 2 t(1: 1 'x'); 4 u(); lost 2 1: NULL 'x'"}, {file(two, rows(2, row(1, 1, text("x"))), rows(2, row(1, 2, text("y"))), rows(2, row(2, 2, text("y")))), "5; 2 t(1: 1 'x', 2: 2 'y'); 4 u(); lost 2 1: 2 'y'"},
		// No table: in the order of the pages, whatever their Owners.
		{file(two, rows(9, entry(5), entry(6, null)), rows(1, entry(1, whole(1))), rows(3, entry(1)), rows(0, entry(2)), rows(9, entry(1))), "10; 2 t(); 4 u(); lost 9 5:; lost 9 6: NULL; lost 1 1: 1; lost 3 1:; lost 0 2:; lost 9 1:"}, {file(rows(0, entry(math.MaxInt64))), "1; lost 0 9223372036854775807:"}, {file(rows(2, row(2, 1, null)), rows(2, row(1, 1, null)), rows(2, row(1, 1, null))), "3; lost 2 2: 1 NULL; lost 2 1: 1 NULL; lost 2 1: 1 NULL"},
		// Only pages that can be unpacked, and only Leafs.
		{file(two, raw(api.Leaf, 4, packed(entry(1, null))+"\x00"), raw(api.Leaf, 4, ""), raw(api.Leaf, 4, "\x02\x02\x01\x00"), raw(api.Leaf, 4, "\x01\x00\x01\x00"), raw(api.Leaf, 9, "\x29"), raw(api.Head, 4, packed(entry(1, null))), raw(api.CatA, 4, packed(entry(1, null))), raw(api.CatB, 4, packed(entry(1, null)))), "5; 2 t(); 4 u()"},
	} {
		if got := said(t, c.pages); got != c.want {
			t.Errorf("%d: %s; want %s", i, got, c.want)
		}
	}
}

// V3: a table has room for MaxRows rows, and one more is lost.
func TestManyRows(t *testing.T) {
	some := func(from, n int64) []api.Entry {
		var l []api.Entry
		for id := range n {
			l = append(l, entry(from+id, whole(1)))
		}
		return l
	}
	forms := catA(formEntry(2, "t", "0--a"), formEntry(3, "u", "0--a"))
	for i, c := range []struct {
		pages  []string
		ids    []int64 // from the first up to the last one
		lostOf []int64
	}{
		{file(forms, rows(2, some(1, 39)...)), []int64{1, 39}, nil}, {file(forms, rows(2, some(1, 40)...)), []int64{1, 40}, nil}, {file(forms, rows(2, some(1, 40)...), rows(2, some(41, 1)...)), []int64{1, 40}, []int64{41}}, {file(forms, rows(2, some(3, 40)...), rows(2, some(1, 2)...)), []int64{3, 42}, []int64{1, 2}}, {file(forms, rows(2, some(1, 20)...), rows(2, some(21, 21)...)), []int64{1, 40}, []int64{41}}, {file(forms, rows(2, some(1, 40)...), rows(2, some(40, 3)...)), []int64{1, 40}, []int64{40, 41, 42}}, {file(forms, rows(2, some(21, 20)...), rows(2, some(21, 3)...), rows(2, some(1, 20)...), rows(2, some(99, 1)...)), []int64{1, 40}, []int64{21, 22, 23, 99}}, {file(forms, rows(2, entry(41)), rows(2, some(1, 40)...)), []int64{1, 40}, []int64{41}},
	} {
		c.pages = append(c.pages, sheet(len(c.pages), api.Leaf, 3, packed(some(7, 2)...)))
		d, lost, err := hold(t, c.pages)
		if err != api.OK || len(d.Tables) != 2 || len(d.Tables[1].Rows) != 2 || d.Next != 4 {
			t.Fatalf("%d: %s, %d", i, show(d, lost), err)
		}
		l := d.Tables[0].Rows
		if int64(len(l)) != c.ids[1]-c.ids[0]+1 || l[0].Id != c.ids[0] || l[len(l)-1].Id != c.ids[1] {
			t.Errorf("%d: %s", i, show(d, lost))
		}
		var ids []int64
		for _, x := range lost {
			ids = append(ids, x.Entry.Id)
		}
		if !slices.Equal(ids, c.lostOf) {
			t.Errorf("%d: lost %v; want %v", i, ids, c.lostOf)
		}
	}
	// As many rows as all pages can have: each table is full, the others are lost.
	var all []api.Page
	for no := range 31 {
		all = append(all, rows(1+no%7, some(int64(40*no+1), 40)...))
	}
	six := catB()
	for i := range 6 {
		e := formEntry(int64(i+1), fmt.Sprint("t", i), "0--a")
		entries, _ := leaf.Unpack(six.Body)
		six = catB(append(entries, e)...)
	}
	d, lost, err := hold(t, file(append(all, six)...))
	if err != api.OK || len(d.Tables) != 6 || len(lost) != 25*40 || d.Next != 8 {
		t.Errorf("%d tables, %d lost, %d", len(d.Tables), len(lost), err)
	}
}

// V4: Next is that of the head, but above all Ids of tables and Owners of what is lost.
func TestNext(t *testing.T) {
	head := func(l ...uint64) api.Page { return raw(api.Head, 0, numbers(l...)) }
	none := raw(api.Head, 0, "")
	t5, lost7, had5 := catA(formEntry(5, "t", "0--a")), rows(7, entry(1)), rows(5, entry(1, null))
	for i, c := range []struct {
		pages []string
		want  int
	}{
		{file(head(1, 0, 0)), 1}, {file(head(2, 0, 0)), 2}, {file(head(999, 0, 0)), 999}, {file(head(1000, 0, 0)), 1000}, {file(head(1001, 0, 0)), 1}, {file(head(0, 0, 0)), 1}, {file(head(9, 0, 0), head(8, 0, 0)), 9}, {file(none, head(8, 0, 0)), 8}, {file(head(1001, 0, 0), head(8, 0, 0)), 8}, {file(head(0, 0, 0), head(8, 0, 0)), 8}, {file(none, none, head(8, 0, 0)), 1}, {file(head(9, 0, 0), none), 9}, {with(file(none, head(8, 0, 0)), 0, ""), 8}, {with(file(none, none), 0, ""), 1},
		// Whatever the head says of pages, as long as it is right.
		{file(head(9, 14, 1, 1)), 9}, {file(head(9, 14, 1, 2)), 1}, {file(head(9, 15, 0)), 1}, {file(head(9, 1, 6, 1, 2, 3, 4, 5, 6)), 9}, {file(head(9, 0, 6, 1, 2, 3, 4, 5, 15)), 1}, {file(head(9, 0, 7, 0, 0, 0, 0, 0, 0, 0)), 1}, {file(head(9, 0, 1, 29)), 9}, {file(head(9, 0, 1, 30)), 1}, {file(head(9, 0, 1)), 1}, {file(head(9, 0)), 1}, {file(head(9, 0, 0, 0)), 1}, {file(head(9, 1<<63, 0)), 1}, {file(head(9, 0, 2, 1<<63, 1<<63)), 1}, {file(head(math.MaxUint64, 0, 0)), 1}, {file(raw(api.Head, 0, "\x89\x00\x00\x00")), 1}, {file(raw(api.Head, 1, numbers(9, 0, 0))), 1}, {file(raw(api.CatA, 0, numbers(9, 0, 0))), 1}, {file(raw(api.Leaf, 0, numbers(9, 0, 0))), 1},
		// Tables, and what is lost.
		{file(head(1, 0, 0), t5), 6}, {file(head(4, 0, 0), t5), 6}, {file(head(5, 0, 0), t5), 6}, {file(head(6, 0, 0), t5), 6}, {file(head(7, 0, 0), t5), 7}, {file(none, none, t5), 6}, {file(none, none, lost7), 8}, {file(head(7, 0, 0), none, lost7), 8}, {file(head(8, 0, 0), none, lost7), 8}, {file(head(9, 0, 0), none, lost7), 9}, {file(none, none, t5, lost7), 8}, {file(none, none, t5, had5), 6}, {file(none, none, t5, rows(5, entry(1))), 6}, {file(none, none, rows(3, entry(1)), t5), 6}, {file(none, none, rows(999, entry(1))), 1000}, {file(head(3, 0, 0), none, rows(999, entry(1))), 1000}, {file(head(1000, 0, 0), none, rows(999, entry(1))), 1000}, {file(none, none, rows(0, entry(1))), 1}, {file(head(3, 0, 0), none, rows(0, entry(1))), 3}, {file(none, none, catA(formEntry(999, "t", "0--a"))), 1000},
		// An Owner of whom nothing is lost, a form that is not taken, an Id of a row.
		{file(none, none, rows(9)), 1}, {file(none, none, raw(api.Leaf, 9, "")), 1}, {file(none, none, t5, catA(formEntry(9, "t", "0--a"))), 6}, {file(none, none, t5, rows(5, entry(900, null))), 6}, {file(none, none, raw(api.CatA, 9, packed(formEntry(9, "t", "0--a")))), 1},
	} {
		if d, _, err := hold(t, c.pages); err != api.OK || d.Next != c.want {
			t.Errorf("%d: Next %d, %d; want %d", i, d.Next, err, c.want)
		}
	}
}

// many rows of an Int and a Text of so many bytes.
func many(id int, name string, n, size int) api.Table {
	x := table(form(id, name, api.Column{Name: "a", Unique: true}, api.Column{Name: "b"}))
	for i := range n {
		x.Rows = append(x.Rows, entry(int64(2*i+1), whole(int64(i)), text(long(size))))
	}
	return x
}

// wide: tables of six columns with names as long as can be: two forms fill a page.
func wide(count int) []api.Table {
	var l []api.Table
	for i := range count {
		x := table(form(i+1, fmt.Sprint("birds_of_you", i)[1:]))
		for k := range 6 {
			x.Schema.Cols = append(x.Schema.Cols, api.Column{Name: fmt.Sprint("birds_of_you", k)[1:], Unique: k == 0})
		}
		x.Rows = []api.Entry{entry(1, make(values, 6)...)}
		l = append(l, x)
	}
	return l
}

// saved tells what V5 says can be had of written tables of which some pages are damaged.
func saved(d api.DB, pages []string, isHurt func(no int) bool) (api.DB, []api.Lost) {
	had := map[int]bool{}
	at := map[int][]api.Entry{}
	var order []api.Lost
	for no := range pages {
		p, _ := pageAt(pages, no)
		l, _ := leaf.Unpack(p.Body)
		for _, e := range l {
			switch {
			case isHurt(no):
			case p.Kind == api.CatA || p.Kind == api.CatB:
				had[int(e.Id)] = true
			case p.Kind == api.Leaf:
				at[p.Owner] = append(at[p.Owner], e)
				order = append(order, api.Lost{Table: p.Owner, Entry: e})
			}
		}
	}
	out := api.DB{Next: 1}
	if !isHurt(0) || !isHurt(1) {
		out.Next = d.Next
	}
	for _, x := range d.Tables {
		if had[x.Schema.Id] {
			out.Tables = append(out.Tables, table(x.Schema, at[x.Schema.Id]...))
			out.Next = max(out.Next, x.Schema.Id+1)
		}
	}
	var lost []api.Lost
	for _, l := range order {
		if !had[l.Table] {
			lost = append(lost, l)
			out.Next = max(out.Next, l.Table+1)
		}
	}
	return out, lost
}

// V5: whichever pages are damaged, of the others all is had, and nothing else.
func TestDamaged(t *testing.T) {
	for _, d := range []api.DB{
		dbOf(1), dbOf(1000), birds(), dbOf(1000, many(999, "t", 0, 0)), dbOf(50, many(2, "t", 20, 16), many(4, "u", 0, 0), many(7, "v", 5, 3)),
		dbOf(9, append(wide(3), many(7, "t", 2, 0))...),
	} {
		pages := written(t, d)
		for hurt := range 1 << len(pages) {
			isHurt := func(no int) bool { return hurt>>no&1 == 1 }
			l := slices.Clone(pages)
			for no, s := range l {
				turned := []byte(s)
				turned[(hurt+no)%256] ^= 16
				if isHurt(no) {
					l[no] = []string{"", s[:255], string(turned), moved((no+1)%32, s), strings.Repeat("\x00", 256)}[(hurt+no)%5]
				}
			}
			want, wantLost := saved(d, pages, isHurt)
			got, lost, err := Save(l)
			if err != api.OK || !same(got, want) || !same(lost, wantLost) {
				t.Fatalf("%b of %v: %s, %d; want %s", hurt, d, show(got, lost), err, show(want, wantLost))
			}
		}
	}
}

// V5: of tables as they were written all is had, and nothing is lost.
func TestWhole(t *testing.T) {
	d := draw(1)
	full := dbOf(9, many(1, "t", 40, 16), many(2, "u", 40, 16), many(3, "v", 40, 16), many(4, "w", 40, 16), many(5, "x", 40, 16), many(6, "y", 40, 16))
	for i := range 1000 {
		x := drawnDB(&d)
		if i == 0 {
			x = full
		}
		pages, err := layout.Write(x)
		if err != api.OK {
			continue
		}
		if got, lost, err := hold(t, pages); err != api.OK || !same(got, x) || len(lost) != 0 {
			t.Fatalf("%v is saved as %s, %d", x, show(got, lost), err)
		}
	}
	if pages := written(t, full); len(pages) != 28 {
		t.Errorf("%d pages", len(pages))
	}
}

// V1 to V5, P1: drawn files, damaged or with other pages.
func TestDrawn(t *testing.T) {
	d := draw(2)
	counts := map[string]int{}
	for range 6000 {
		pages := drawnFile(&d)
		was, _, _ := Save(pages)
		got, lost, err := hold(t, spoil(&d, pages))
		if err != api.OK {
			t.Fatalf("error %d", err)
		}
		if len(lost) > 0 {
			counts["lost"]++
		}
		for _, l := range lost {
			if slices.ContainsFunc(got.Tables, func(x api.Table) bool { return x.Schema.Id == l.Table }) {
				counts["lost beside a table"]++
				break
			}
		}
		if same(got, was) {
			counts["as it was"]++
		}
		if got.Next != was.Next {
			counts["another Next"]++
		}
	}
	for what, least := range map[string]int{"lost": 1000, "lost beside a table": 300, "as it was": 500, "another Next": 300} {
		if counts[what] < least {
			t.Errorf("%s: drawn too few: %v", what, counts)
		}
	}
}

// V1, P1: pages of any bytes.
func TestAnyBytes(t *testing.T) {
	d := draw(3)
	for range 2000 {
		l := make([]string, d.below(34))
		for i := range l {
			b := make([]byte, 254+d.below(4))
			for k := range b {
				b[k] = byte(d.next() >> 20)
			}
			l[i] = string(b)
			if d.coin() {
				l[i] = sheet(i, 1+d.below(4), d.below(2), string(b[:d.below(246)]))
			}
		}
		hold(t, l)
	}
}

// P2: pages that are handed in stay what they were, the room behind them too; what is answered is new memory, no two lists of it share any, and a later change is not seen in it.
func TestOnlyRead(t *testing.T) {
	d := draw(4)
	for range 1500 {
		pages := roomy(drawnFile(&d))
		if d.below(4) > 0 {
			pages = roomy(spoil(&d, pages))
		}
		was := entirely(pages)
		type answer struct {
			DB   api.DB
			Lost []api.Lost
		}
		var got, again answer
		got.DB, got.Lost, _ = Save(pages)
		again.DB, again.Lost, _ = Save(pages)
		want, wantLost, _ := modelSave(pages)
		if entirely(pages) != was || shared(got, pages, again) {
			t.Fatalf("%s has become %s, or memory is shared", was, entirely(pages))
		}
		scribble(reflect.ValueOf(&pages).Elem())
		scribble(reflect.ValueOf(&again).Elem())
		if !same(got.DB, want) || !same(got.Lost, wantLost) {
			t.Fatalf("a change is seen in what was answered: %v", got)
		}
	}
}

// P3: whatever was asked ahead of it, and whoever asks at the same time.
func TestNothingIsKept(t *testing.T) {
	common := written(t, birds())
	var hands sync.WaitGroup
	for seed := range 4 {
		hands.Go(func() {
			d := draw(60 + seed)
			for range 200 {
				pages := spoil(&d, drawnFile(&d))
				if d.coin() {
					pages = common
				}
				want, wantLost, wanted := modelSave(pages)
				for range 2 {
					if got, lost, err := Save(pages); err != wanted || !same(got, want) || !same(lost, wantLost) {
						t.Errorf("Save(%q) = %v, %v, %d; want %v, %v, %d", pages, got, lost, err, want, wantLost, wanted)
					}
				}
			}
		})
	}
	hands.Wait()
}

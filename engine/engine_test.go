package engine

import (
	"fmt"
	"math"
	"reflect"
	"slices"
	"strings"
	"sync"
	"testing"

	"starling/api"
	"starling/db"
	"starling/journal"
	"starling/layout"
	"starling/leaf"
	"starling/salvage"
	"starling/stmt"
)

// The document's example.
const (
	createBirds = "create table birds (id integer not null unique, name text)"
	insertBirds = "insert into birds values (1, 'wren'), (2, 'rook')"
	askBirds    = "select name from birds where id > 1"
)

func birds(t *testing.T) api.Session {
	t.Helper()
	return after(t, New(), createBirds, insertBirds)
}

// flock: two tables, the first one with rows on two pages (4 and 5), the second one with one row (on page 6).
func flock(t *testing.T) api.Session {
	t.Helper()
	row := func(n int) string { return fmt.Sprintf("(%d, '%s', '%[2]s', '%[2]s', '%[2]s')", n, long(16)) }
	s := after(t, New(), "create table t (a integer unique, b text, c text, d text, e text)",
		"insert into t values "+row(1)+", "+row(2), "insert into t values "+row(3)+", "+row(4),
		"create table u (a, b)", "insert into u values (null, 'x')")
	if len(s.Store.Data.Pages) != 7 {
		t.Fatalf("%s", show(s))
	}
	return s
}

// said does a command, and tells its rows, or the number of its error.
func said(t *testing.T, s api.Session, line string) string {
	t.Helper()
	_, rows, err := exec(t, s, line)
	if err != api.OK {
		return fmt.Sprint("error ", int(err))
	}
	return told(rows)
}

// W1 to W7: the document's example.
func TestExample(t *testing.T) {
	s := birds(t)
	if len(s.Store.Data.Pages) != 5 || said(t, s, askBirds) != "'rook'" {
		t.Errorf("%s, %s", show(s), said(t, s, askBirds))
	}
	s = hurt(t, s, 0)
	if s.Hurt || said(t, s, askBirds) != "'rook'" {
		t.Errorf("%s, %s", show(s), said(t, s, askBirds))
	}
	s = hurt(t, s, 4)
	if !s.Hurt || said(t, s, askBirds) != "error 11" {
		t.Errorf("%s, %s", show(s), said(t, s, askBirds))
	}
	s, lost, err := rescue(t, s)
	if err != api.OK || len(lost) != 0 || s.Hurt || tell(s.DB) != "2 birds()" || said(t, s, askBirds) != "" {
		t.Errorf("%s, %v, %d", show(s), lost, err)
	}
}

// W1: a new session has no tables, and nothing but their pages.
func TestNew(t *testing.T) {
	s := New()
	want := api.Session{
		Store: api.Store{Data: api.Disk{Pages: []string{sheet(0, api.Head, 0, "\x01\x00\x00"), sheet(1, api.Head, 0, "\x01\x00\x00")}}},
		DB:    api.DB{Next: 1}, Kept: api.DB{Next: 1},
	}
	if !same(s, want) || Check(s) != api.OK || shared(s, New()) {
		t.Errorf("%v; want %v", s, want)
	}
}

// changed answers a session of which a function has changed something; the session itself stays as it was.
func changed(s api.Session, change func(s *api.Session)) api.Session {
	s = plain(s)
	change(&s)
	return s
}

// W1: each error of Check, and of each two the one that is first.
func TestCheck(t *testing.T) {
	right := birds(t)
	begun := after(t, right, "begin", "insert into birds values (3, 'owl')")
	damaged := hurt(t, right, 4)
	for _, s := range []api.Session{right, begun, damaged, New(), after(t, right, "begin"), hurt(t, New(), 0, 1), hurt(t, right, 2), hurt(t, right, 30)} {
		if err := check(t, s); err != api.OK {
			t.Errorf("%s: %d", show(s), err)
		}
	}
	wait := func(s *api.Session) { s.Store.Data.Waiting = []api.Write{{}} }
	waitBehind := func(s *api.Session) { s.Store.Journal.Waiting = []api.Write{{}} }
	hot := func(s *api.Session) { s.Store.Journal.Pages[0] = "J\x00" }
	to32 := func(s *api.Session) {
		all := sheetsOf(s.Store.Data)
		all[31] = "x"
		s.Store.Data.Pages = all.disk().Pages
	}
	noName := func(s *api.Session) { s.DB.Tables[0].Schema.Name = "" }
	none := func(s *api.Session) { s.DB, s.Kept = api.DB{}, api.DB{} }
	all := func(l ...func(s *api.Session)) func(s *api.Session) {
		return func(s *api.Session) {
			for _, do := range l {
				do(s)
			}
		}
	}
	for i, c := range []struct {
		of   api.Session
		do   func(s *api.Session)
		want api.Errno
	}{
		{right, func(*api.Session) {}, api.OK},
		{api.Session{}, func(*api.Session) {}, api.ErrState}, {api.Session{}, func(s *api.Session) { s.Hurt = true }, api.OK},
		// The store, the file first.
		{right, func(s *api.Session) { s.Store.Data.Pages[4] = long(261) }, api.ErrMany}, {right, func(s *api.Session) { s.Store.Data.Pages[4] = "" }, api.ErrForm}, {right, func(s *api.Session) { s.Store.Data.Pages = make([]string, 33) }, api.ErrMany}, {right, func(s *api.Session) { s.Store.Journal.Pages = make([]string, 33) }, api.ErrMany}, {right, func(s *api.Session) { s.Store.Journal.Pages = []string{""} }, api.ErrForm}, {right, func(s *api.Session) { s.Store.Journal.Pages[0] = long(261) }, api.ErrMany},
		{right, func(s *api.Session) { s.Store.Data.Waiting = []api.Write{{No: 32}} }, api.ErrRange}, {right, func(s *api.Session) { s.Store.Journal.Waiting = []api.Write{{No: -1}} }, api.ErrRange}, {right, func(s *api.Session) { s.Store.Journal.Waiting = make([]api.Write, 49) }, api.ErrMany}, {right, all(func(s *api.Session) { s.Store.Journal.Pages = []string{""} }, to32), api.ErrForm}, {right, all(func(s *api.Session) { s.Store.Data.Waiting = []api.Write{{No: 32}} }, to32), api.ErrRange},
		// More pages than a file may have.
		{right, to32, api.ErrMany}, {right, all(to32, wait), api.ErrMany}, {right, all(to32, hot), api.ErrMany}, {damaged, to32, api.ErrMany},
		// Something waits, or the journal is hot, of its form or not.
		{right, wait, api.ErrState}, {right, waitBehind, api.ErrState}, {right, hot, api.ErrState}, {right, func(s *api.Session) { s.Store.Journal.Pages[0] = "J" }, api.ErrState}, {right, func(s *api.Session) { s.Store.Journal.Pages[0] = "Jay" }, api.ErrState}, {right, func(s *api.Session) { s.Store.Journal.Pages[0] = "J\xff" }, api.ErrState}, {right, func(s *api.Session) { s.Store.Journal.Pages[0] = "j" }, api.OK}, {right, func(s *api.Session) { s.Store.Journal.Pages[0] = "" }, api.OK}, {right, func(s *api.Session) { s.Store.Journal.Pages = nil }, api.OK}, {begun, all(wait, noName), api.ErrState}, {begun, all(hot, noName), api.ErrState}, {damaged, wait, api.ErrState}, {damaged, hot, api.ErrState},
		// A file that can't be read.
		{damaged, func(s *api.Session) { s.Hurt = false }, api.ErrState}, {damaged, func(s *api.Session) { s.InTx = true }, api.ErrState}, {damaged, func(s *api.Session) { s.DB.Next = 1 }, api.ErrState}, {damaged, func(s *api.Session) { s.Kept.Next = 1 }, api.ErrState}, {damaged, func(s *api.Session) { s.DB.Tables = make([]api.Table, 1) }, api.ErrState}, {damaged, func(s *api.Session) { s.Kept.Tables = make([]api.Table, 1) }, api.ErrState}, {damaged, func(s *api.Session) { s.DB.Tables, s.Kept.Tables = []api.Table{}, []api.Table{} }, api.OK}, {damaged, func(s *api.Session) { s.DB, s.Kept = right.DB, right.Kept }, api.ErrState},
		// One that can.
		{right, func(s *api.Session) { s.Hurt = true }, api.ErrState}, {right, all(none, func(s *api.Session) { s.Hurt = true }), api.ErrState}, {right, none, api.ErrState}, {right, func(s *api.Session) { s.Kept.Next++ }, api.ErrState}, {right, func(s *api.Session) { s.Kept = api.DB{Next: 1} }, api.ErrState}, {right, func(s *api.Session) { s.Kept.Tables[0].Schema.Id = 2 }, api.ErrState}, {right, func(s *api.Session) { s.Kept.Tables[0].Schema.Name = "bird" }, api.ErrState}, {right, func(s *api.Session) { s.Kept.Tables[0].Schema.Cols[1].Unique = true }, api.ErrState}, {right, func(s *api.Session) { s.Kept.Tables[0].Rows[1].Id = 3 }, api.ErrState}, {right, func(s *api.Session) { s.Kept.Tables[0].Rows[1].Row[1].S = "rooks" }, api.ErrState}, {right, func(s *api.Session) { s.Kept.Tables[0].Rows = s.Kept.Tables[0].Rows[:1] }, api.ErrState}, {begun, func(s *api.Session) { s.Kept = s.DB }, api.ErrState}, {begun, func(s *api.Session) { s.Hurt = true }, api.ErrState}, {begun, all(noName, func(s *api.Session) { s.Kept.Next++ }), api.ErrState}, {begun, all(noName, func(s *api.Session) { s.Hurt = true }), api.ErrState},
		// DB itself, begun or not; then that it was kept.
		{begun, noName, api.ErrForm}, {right, noName, api.ErrForm}, {begun, func(s *api.Session) { s.DB.Next = 0 }, api.ErrRange}, {right, func(s *api.Session) { s.DB.Next = 0 }, api.ErrRange}, {begun, func(s *api.Session) { s.DB.Next = 1 }, api.ErrState}, {begun, func(s *api.Session) { s.DB.Tables[0].Rows[0].Row[0] = null }, api.ErrNone}, {begun, func(s *api.Session) { s.DB.Tables[0].Rows[0].Row[0].N = 2 }, api.ErrTwice}, {begun, func(s *api.Session) { s.DB.Tables[0].Rows[0].Row[0] = text("x") }, api.ErrKind},
		{right, func(s *api.Session) { s.DB.Next++ }, api.ErrState}, {right, func(s *api.Session) { s.DB = api.DB{Next: 1} }, api.ErrState}, {begun, func(s *api.Session) { s.DB = api.DB{Next: 1} }, api.OK}, {begun, func(s *api.Session) { s.InTx = false }, api.ErrState}, {right, func(s *api.Session) { s.InTx = true }, api.OK}, {right, func(s *api.Session) { s.DB.Tables[0].Rows = s.DB.Tables[0].Rows[:1] }, api.ErrState},
	} {
		s := changed(c.of, c.do)
		if err := check(t, s); err != c.want {
			t.Errorf("%d: %s: %d; want %d", i, show(s), err, c.want)
		}
		if c.want == api.OK {
			continue
		}
		// Each call that is handed a session has this error first.
		_, _, execErr := exec(t, s, "nonsense")
		_, opsErr := Ops(s, "nonsense")
		_, crashErr := crash(t, s, "nonsense", -1, 0, 0)
		_, damageErr := damage(t, s, -1, long(257))
		_, _, salvageErr := rescue(t, s)
		for _, err := range []api.Errno{execErr, opsErr, crashErr, damageErr, salvageErr} {
			if err != c.want {
				t.Errorf("%d: %d; want %d", i, err, c.want)
			}
		}
	}
}

// W2: a store of any kind; the errors of Recover, then a file of too many pages.
func TestOpen(t *testing.T) {
	pages := birds(t).Store.Data.Pages
	at := func(no int, page string) []string {
		all := sheetsOf(api.Disk{Pages: pages})
		all[no] = page
		return all.disk().Pages
	}
	disk := func(l ...string) api.Disk { return api.Disk{Pages: l} }
	wait := func(no int) []api.Write { return []api.Write{{No: no}} }
	const read, hurt = "2 birds(1: 1 'wren', 2: 2 'rook')", "0"
	for i, c := range []struct {
		store api.Store
		want  string
	}{
		{api.Store{}, hurt}, {api.Store{Data: disk(pages...)}, read}, {api.Store{Data: disk(pages...), Journal: disk("-", "x")}, read}, {api.Store{Data: disk(at(0, "")...)}, read}, {api.Store{Data: disk(at(4, "x")...)}, hurt}, {api.Store{Data: disk(at(30, "x")...)}, read}, {api.Store{Data: disk(pages[:4]...)}, hurt}, {api.Store{Data: disk(New().Store.Data.Pages...)}, "1"},
		// What waits, a store that is wrong.
		{api.Store{Data: api.Disk{Pages: pages, Waiting: wait(0)}}, "error 4"}, {api.Store{Data: disk(pages...), Journal: api.Disk{Waiting: wait(0)}}, "error 4"}, {api.Store{Data: api.Disk{Pages: pages, Waiting: wait(32)}}, "error 3"}, {api.Store{Data: disk(append(slices.Clone(pages), "")...)}, "error 1"}, {api.Store{Data: disk(long(261))}, "error 2"}, {api.Store{Data: disk(pages...), Journal: disk("")}, "error 1"}, {api.Store{Journal: disk(slices.Repeat([]string{"x"}, 33)...)}, "error 2"}, {api.Store{Data: disk(slices.Repeat([]string{"x"}, 33)...)}, "error 2"},
		// A hot journal: what was begun is taken back, if it is of its form.
		{api.Store{Data: disk(pages...), Journal: disk("J\x00")}, read}, {api.Store{Data: disk(at(4, "x")...), Journal: disk("J\x01", "\x00\x04"+pages[4])}, read}, {api.Store{Data: disk(pages...), Journal: disk("J\x01", "\x00\x04")}, hurt}, {api.Store{Data: disk(), Journal: disk("J\x05", "\x00\x04"+pages[4], "\x00\x00"+pages[0], "\x00\x01"+pages[1], "\x00\x02"+pages[2], "\x00\x03"+pages[3])}, read}, {api.Store{Data: disk(pages...), Journal: disk("J")}, "error 1"}, {api.Store{Data: disk(pages...), Journal: disk("J\x01")}, "error 1"}, {api.Store{Data: disk(pages...), Journal: disk("J\x01", "\x00\x20")}, "error 1"}, {api.Store{Data: disk(pages...), Journal: disk("J\x20")}, "error 1"}, {api.Store{Data: disk(pages...), Journal: api.Disk{Pages: []string{"J"}, Waiting: wait(0)}}, "error 4"},
		// A file of 32 pages, before it is recovered, or then.
		{api.Store{Data: disk(at(31, "x")...)}, "error 2"}, {api.Store{Data: disk(at(31, sheet(31, api.Leaf, 1, "\x00"))...)}, "error 2"}, {api.Store{Data: disk(at(31, "x")...), Journal: disk("J\x01", "\x00\x1f")}, read}, {api.Store{Data: disk(at(30, "x")...), Journal: disk("J\x01", "\x00\x1fx")}, "error 2"}, {api.Store{Data: disk(at(31, "x")...), Journal: disk("J")}, "error 1"}, {api.Store{Data: api.Disk{Pages: at(31, "x"), Waiting: wait(31)}}, "error 4"}, {api.Store{Data: disk(slices.Repeat([]string{"x"}, 31)...)}, hurt}, {api.Store{Data: disk(slices.Repeat([]string{"x"}, 32)...)}, "error 2"},
	} {
		s, err := open(t, c.store)
		got := tell(s.DB)
		if err != api.OK {
			got = fmt.Sprint("error ", int(err))
		}
		if got != c.want || err == api.OK && (s.Hurt != (c.want == hurt) || s.InTx || !same(s.DB, s.Kept)) {
			t.Errorf("%d: %s, %d; want %s", i, show(s), err, c.want)
		}
	}
}

// W2: what a session has kept is what another one has that is opened from its store.
func TestOpenAgain(t *testing.T) {
	for _, s := range []api.Session{New(), birds(t), flock(t), after(t, flock(t), "begin", "drop table u"), hurt(t, flock(t), 1, 2)} {
		got, err := open(t, s.Store)
		if err != api.OK || got.InTx || got.Hurt || !same(got.DB, s.Kept) || !same(got.Kept, s.Kept) || !same(got.Store, s.Store) {
			t.Errorf("%s, %d; want %s", show(got), err, show(s))
		}
	}
}

// step of a script: a command, what it tells (or its error), and whether a begin stands open then.
type step struct {
	line, want string
	begun      bool
}

// play goes on with the session before, where a command fails.
func play(t *testing.T, s api.Session, steps []step) api.Session {
	t.Helper()
	for i, c := range steps {
		next, rows, err := exec(t, s, c.line)
		got := told(rows)
		if err != api.OK {
			got = fmt.Sprint("error ", int(err))
		} else {
			s = next
		}
		if got != c.want || s.InTx != c.begun {
			t.Errorf("%d: %s: %s, %v; want %s, %v", i, c.line, got, s.InTx, c.want, c.begun)
		}
	}
	return s
}

// W3: commands of each kind, right and wrong ones; a begin within a begin, a commit and a rollback with and without one, a command that fails within one.
func TestExec(t *testing.T) {
	s := play(t, New(), []step{
		{"select * from birds", "error 5", false}, {"drop table birds", "error 5", false}, {createBirds, "", false}, {createBirds, "error 6", false}, {insertBirds, "", false}, {insertBirds, "error 6", false}, {askBirds, "'rook'", false}, {"SELECT count(*) , max(name) FROM birds;", "2 'wren'", false}, {"update birds set name = 'owl' where id = 2", "", false}, {askBirds, "'owl'", false}, {"delete from birds where id = 1", "", false}, {"select * from birds", "2 'owl'", false}, {"select wing from birds", "error 5", false}, {"update birds set id = null", "error 5", false}, {"insert into birds values ('x', 'y')", "error 7", false}, {"insert into birds values (1/0, 'y')", "error 9", false}, {"insert into birds values (9223372036854775807 + 1, 'y')", "error 8", false}, {"insert into birds values (1)", "error 1", false},
		// What is no command.
		{"", "error 1", false}, {";", "error 1", false}, {"nonsense", "error 1", false}, {"begin begin", "error 1", false}, {"begin; commit", "error 1", false}, {"select * from birds where '", "error 1", false}, {"-- select * from birds", "error 1", false}, {strings.Repeat(" ", 301), "error 2", false}, {"commit" + strings.Repeat(" ", 295), "error 2", false}, {"select * from thirteen_byte", "error 2", false}, {"select 99999999999999999999 from birds", "error 8", false},
		// Without a begin.
		{"commit", "error 4", false}, {"rollback", "error 4", false}, {"COMMIT;", "error 4", false},
		// With one; by rollback all is as it was kept.
		{"begin", "", true}, {"begin", "error 4", true}, {"insert into birds values (3, 'jay'), (4, 'tit')", "", true}, {"select id from birds", "2; 3; 4", true}, {"insert into birds values (5, 'auk'), (3, 'emu')", "error 6", true}, {"select id from birds", "2; 3; 4", true}, {"nonsense", "error 1", true}, {"begin", "error 4", true}, {"create table nests (a)", "", true}, {"drop table birds", "", true}, {"select * from birds", "error 5", true}, {"rollback", "", false}, {"select * from birds", "2 'owl'", false}, {"select * from nests", "error 5", false}, {"rollback", "error 4", false}, {"commit", "error 4", false},
		// By commit it stays.
		{"Begin ;", "", true}, {"create table nests (a)", "", true}, {"insert into nests values (1)", "", true}, {"delete from birds", "", true}, {"insert into nests values (1, 2)", "error 1", true}, {"commit", "", false}, {"select count(*) from birds", "0", false}, {"select * from nests", "1", false}, {"commit", "error 4", false}, {"begin", "", true}, {"commit", "", false}, {"begin", "", true}, {"rollback", "", false}, {"select * from nests", "1", false},
		// A table that was dropped and made again has another Id.
		{"drop table nests", "", false}, {"create table nests (a, b)", "", false}, {"select * from nests", "", false},
	})
	if tell(s.DB) != "4 birds() nests()" || s.DB.Tables[1].Schema.Id != 3 {
		t.Errorf("%v", s.DB)
	}
}

// W3, W4: while a begin stands open nothing is kept, and the store stays as it is; by a commit DB is kept, by a rollback it is what was kept.
func TestBegun(t *testing.T) {
	s := birds(t)
	begun := after(t, s, "begin")
	for _, line := range []string{askBirds, "insert into birds values (3, 'owl')", "update birds set name = null", "delete from birds", "create table t (a)", "drop table birds"} {
		ops, err := Ops(begun, line)
		next := after(t, begun, line)
		if err != api.OK || len(ops) > 0 || !next.InTx || !same(next.Store, s.Store) || !same(next.Kept, s.DB) {
			t.Errorf("%s: %s, %d ops, %d", line, show(next), len(ops), err)
		}
		if back := after(t, next, "rollback"); !same(back, s) {
			t.Errorf("%s: %s; want %s", line, show(back), show(s))
		}
		kept := after(t, next, "commit")
		if kept.InTx || !same(kept.DB, next.DB) || !same(kept.Kept, next.DB) || !slices.Equal(kept.Store.Data.Pages, written(t, next.DB)) {
			t.Errorf("%s: %s; want %s", line, show(kept), tell(next.DB))
		}
		// The same, command by command or all at once.
		if plain := after(t, s, line); !same(plain.DB, kept.DB) || !same(plain.Store, kept.Store) {
			t.Errorf("%s: %s; want %s", line, show(plain), show(kept))
		}
	}
}

// W4: which ops keep tables, one by one, and what the store is then.
func TestOps(t *testing.T) {
	s := birds(t)
	old := s.Store.Data.Pages
	wren, owl := entry(1, whole(1), text("wren")), entry(2, whole(2), text("owl"))
	now := sheet(4, api.Leaf, 1, "\x02\x02\x02\x01\x02\x02\x04wren\x04\x02\x01\x04\x02\x03owl")
	line := "update birds set name = 'owl' where id = 2"
	ops, err := Ops(s, line)
	want := []api.Op{{Kind: api.ToJournal, No: 1, Text: "\x00\x04" + old[4]}, {Kind: api.SyncJournal}, {Kind: api.ToJournal, Text: "J\x01"}, {Kind: api.SyncJournal}, {Kind: api.ToData, No: 4, Text: now}, {Kind: api.SyncData}, {Kind: api.ToJournal, Text: "-"}, {Kind: api.SyncJournal}}
	if err != api.OK || !slices.Equal(ops, want) {
		t.Errorf("%v, %d; want %v", ops, err, want)
	}
	next := after(t, s, line)
	form := s.DB.Tables[0].Schema
	d := dbOf(2, table(form, wren, owl))
	// The journal has of the change before what this one did not write to it.
	journal := append([]string{"-", "\x00\x04" + old[4]}, s.Store.Journal.Pages[2:]...)
	if !same(next, api.Session{Store: api.Store{Data: api.Disk{Pages: append(slices.Clone(old[:4]), now)}, Journal: api.Disk{Pages: journal}}, DB: d, Kept: d}) {
		t.Errorf("%s", show(next))
	}
	// Commands by which nothing is another page, or which keep nothing.
	for _, line := range []string{"delete from birds where id > 2", "update birds set name = name", "update birds set id = id * 1", askBirds, "begin"} {
		ops, err := Ops(s, line)
		if next := after(t, s, line); err != api.OK || len(ops) > 0 || !same(next.Store, s.Store) || !same(next.DB, s.DB) || !same(next.Kept, s.Kept) {
			t.Errorf("%s: %v, %d", line, ops, err)
		}
	}
	if ops, err := Ops(after(t, s, "begin"), "commit"); err != api.OK || len(ops) > 0 {
		t.Errorf("%v, %d", ops, err)
	}
	// A first table: both heads, and its form twice, two places behind the last page.
	ops, _ = Ops(New(), createBirds)
	var places []int
	for _, o := range ops {
		if o.Kind == api.ToData {
			places = append(places, o.No)
		}
	}
	if !slices.Equal(places, []int{0, 1, 2, 3}) || len(ops) != 14 {
		t.Errorf("%v", ops)
	}
	for _, line := range []string{"nonsense", "commit", createBirds, "drop table nests"} {
		_, _, want := exec(t, s, line)
		if ops, err := Ops(s, line); err != want || err == api.OK || ops != nil {
			t.Errorf("%s: %v, %d; want %d", line, ops, err, want)
		}
	}
}

// W4: a change mends by the way whatever is damaged of a file that can be read, and leaves blank what stands behind the last page.
func TestMends(t *testing.T) {
	whole := flock(t)
	pages := whole.Store.Data.Pages
	for _, places := range [][]int{{0}, {1}, {2}, {3}, {0, 2}, {1, 3}, {7}, {30}, {0, 3, 8, 20}} {
		s := hurt(t, whole, places...)
		if s.Hurt || slices.Equal(s.Store.Data.Pages, pages) {
			t.Fatalf("%v: %s", places, show(s))
		}
		// What keeps nothing mends nothing.
		for _, l := range [][]string{{"select * from t"}, {"begin"}, {"begin", "delete from u"}, {"begin", "delete from u", "rollback"}} {
			if next := after(t, s, l...); !same(next.Store, s.Store) {
				t.Errorf("%v, %v: %s", places, l, show(next))
			}
		}
		// What keeps the same tables has a write for each damaged place that is not blank, and no other.
		for _, l := range [][]string{{"delete from u where a = 1"}, {"begin", "commit"}} {
			before := after(t, s, l[:len(l)-1]...)
			ops, _ := Ops(before, l[len(l)-1])
			var got []int
			for _, o := range ops {
				if o.Kind == api.ToData {
					got = append(got, o.No)
				}
			}
			want := slices.DeleteFunc(slices.Clone(places), func(no int) bool {
				return no >= len(pages) && (no >= len(s.Store.Data.Pages) || s.Store.Data.Pages[no] == "")
			})
			next := after(t, s, l...)
			if !slices.Equal(got, want) || !slices.Equal(next.Store.Data.Pages, pages) || !same(next.DB, whole.DB) {
				t.Errorf("%v, %v: %v; want %v; %s", places, l, got, want, show(next))
			}
		}
		next := after(t, s, "insert into u values (1, 2)")
		if !slices.Equal(next.Store.Data.Pages, written(t, next.DB)) || !same(next.DB, after(t, whole, "insert into u values (1, 2)").DB) {
			t.Errorf("%v: %s", places, show(next))
		}
	}
	// Fewer pages than before.
	for line, size := range map[string]int{"drop table u": 6, "drop table t": 5, "delete from u": 6, "delete from t where a > 1": 6} {
		ops, _ := Ops(whole, line)
		blank := 0
		for _, o := range ops {
			if o.Kind == api.ToData && o.Text == "" {
				if o.No < size {
					t.Errorf("%s: %d is blank", line, o.No)
				}
				blank++
			}
		}
		if next := after(t, whole, line); len(next.Store.Data.Pages) != size || blank != 7-size {
			t.Errorf("%s: %s, %d blank", line, show(next), blank)
		}
	}
}

// wide: a table of one column whose rows are 20 bytes each, 12 on a page.
func wide(id int, name string, count int) api.Table {
	t := table(form(id, name, api.Column{Name: "a"}))
	for i := range count {
		t.Rows = append(t.Rows, entry(int64(i+1), text(long(16))))
	}
	return t
}

// broad: a table whose rows fill a page by twos.
func broad(id int, name string, count int) api.Table {
	t := table(form(id, name))
	for i := range 6 {
		t.Schema.Cols = append(t.Schema.Cols, api.Column{Name: string(rune('a' + i))})
	}
	for i := range count {
		t.Rows = append(t.Rows, entry(int64(i+1), slices.Repeat(values{text(long(16))}, 6)...))
	}
	return t
}

// W4: a file of as many pages as there may be, and a command by which there would be one more.
func TestLimit(t *testing.T) {
	s := opened(t, written(t, dbOf(9, broad(1, "t", 40), broad(2, "u", 10), wide(3, "v", 24)))...)
	if len(s.Store.Data.Pages) != 31 {
		t.Fatalf("%s", show(s))
	}
	more := "insert into v values ('x')"
	play(t, s, []step{
		{more, "error 2", false}, {"insert into t values (1, 2, 3, 4, 5, 6)", "error 2", false}, {"create table w (a)", "", false}, {more, "error 2", false}, {"begin", "", true}, {more, "", true}, {"select count(*) from v", "25", true}, {"commit", "error 2", true}, {"select count(*) from v", "25", true}, {"rollback", "", false}, {"select count(*) from v", "24", false}, {"begin", "", true}, {more, "", true}, {"commit", "error 2", true}, {"delete from v where a = 'x'", "", true}, {"commit", "", false}, {"begin", "", true}, {"drop table u", "", true}, {more, "", true}, {"commit", "", false}, {"select count(*) from v", "25", false},
	})
	if _, err := Ops(s, more); err != api.ErrMany {
		t.Errorf("%d", err)
	}
	if _, err := crash(t, s, more, -1, 0, 0); err != api.ErrMany {
		t.Errorf("%d", err)
	}
	// What Run says comes first.
	if _, _, err := exec(t, s, "insert into v values ('x'), (1, 2)"); err != api.ErrForm {
		t.Errorf("%d", err)
	}
	// All 31 places at once.
	garbage := opened(t, slices.Repeat([]string{"x"}, 31)...)
	next, lost, err := rescue(t, garbage)
	if err != api.OK || len(lost) > 0 || tell(next.DB) != "1" || len(next.Store.Data.Pages) != 2 || len(next.Store.Journal.Pages) != 32 {
		t.Errorf("%s, %v, %d", show(next), lost, err)
	}
}

// W4: a page of the file that is longer than any page that is written can't be kept in the journal.
func TestLongPages(t *testing.T) {
	for size := 255; size <= 260; size++ {
		wrong := size > 256
		fails := func(line string) step {
			if wrong {
				return step{line, "error 2", line == "commit"}
			}
			return step{line, "", false}
		}
		for _, no := range []int{0, 3, 5, 30} {
			all := sheetsOf(birds(t).Store.Data)
			all[no] = long(size)
			s := opened(t, all.disk().Pages...)
			play(t, s, []step{{askBirds, "'rook'", false}, fails("delete from birds where id = 9")})
			play(t, s, []step{{"begin", "", true}, {"insert into birds values (3, null)", "", true}, fails("commit")})
			play(t, s, []step{{"begin", "", true}, {"rollback", "", false}, {"nonsense", "error 1", false}, {createBirds, "error 6", false}, fails("create table t (a)")})
			for _, err := range []api.Errno{errOf(rescue(t, s)), errOf(rescue(t, hurt(t, s, 4)))} {
				if err == api.OK == wrong || wrong && err != api.ErrMany {
					t.Errorf("%d bytes at %d: %d", size, no, err)
				}
			}
		}
	}
}

func errOf(_ api.Session, _ []api.Lost, err api.Errno) api.Errno { return err }

// W3: a session whose file is damaged answers what can be read, and does nothing else.
func TestHurt(t *testing.T) {
	whole := flock(t)
	// The rows of t, those of u; both; both heads; both forms.
	tables := []api.Session{hurt(t, whole, 5), hurt(t, whole, 6), hurt(t, whole, 4, 6), hurt(t, whole, 0, 1), hurt(t, whole, 2, 3)}
	for _, c := range []struct {
		line, of5, of6, both, heads, forms string
	}{
		{"select * from u", "NULL 'x'", "error 11", "error 11", "error 11", "error 11"}, {"select a from t where a > 2", "error 11", "3; 4", "error 11", "error 11", "error 11"}, {"select count(*), sum(a) from t", "error 11", "4 10", "error 11", "error 11", "error 11"}, {"select b, count(*) from u group by b order by 1 limit 1;", "'x' 1", "error 11", "error 11", "error 11", "error 11"}, {"select distinct b from t order by 1 desc", "error 11", "'" + long(16) + "'", "error 11", "error 11", "error 11"},
		{"select * from nests", "error 5", "error 5", "error 5", "error 11", "error 11"}, {"select c from u", "error 5", "error 11", "error 11", "error 11", "error 11"}, {"select b + 1 from u", "error 7", "error 11", "error 11", "error 11", "error 11"}, {"select a / 0 from t", "error 11", "error 9", "error 11", "error 11", "error 11"}, {"select a from u order by 2", "error 3", "error 11", "error 11", "error 11", "error 11"},
		// All that is no Select, right or wrong.
		{"insert into u values (1, 2)", "error 12", "error 12", "error 12", "error 12", "error 12"}, {"insert into nests values (1)", "error 12", "error 12", "error 12", "error 12", "error 12"}, {"create table v (a)", "error 12", "error 12", "error 12", "error 12", "error 12"}, {"create table u (a)", "error 12", "error 12", "error 12", "error 12", "error 12"}, {"drop table u", "error 12", "error 12", "error 12", "error 12", "error 12"}, {"update u set b = a", "error 12", "error 12", "error 12", "error 12", "error 12"}, {"delete from t", "error 12", "error 12", "error 12", "error 12", "error 12"}, {"begin", "error 12", "error 12", "error 12", "error 12", "error 12"}, {"commit", "error 4", "error 4", "error 4", "error 4", "error 4"}, {"rollback", "error 4", "error 4", "error 4", "error 4", "error 4"},
		{"nonsense", "error 1", "error 1", "error 1", "error 1", "error 1"}, {"insert into u", "error 1", "error 1", "error 1", "error 1", "error 1"}, {strings.Repeat("-", 301), "error 2", "error 2", "error 2", "error 2", "error 2"},
	} {
		for i, want := range []string{c.of5, c.of6, c.both, c.heads, c.forms} {
			if got := said(t, tables[i], c.line); got != want || !tables[i].Hurt {
				t.Errorf("%d: %s: %s; want %s", i, c.line, got, want)
			}
			if next, _, err := exec(t, tables[i], c.line); err == api.OK && !same(next, tables[i]) {
				t.Errorf("%d: %s: %s", i, c.line, show(next))
			}
			if ops, err := Ops(tables[i], c.line); len(ops) > 0 || err == api.OK == strings.HasPrefix(want, "error") {
				t.Errorf("%d: %s: %v, %d", i, c.line, ops, err)
			}
		}
	}
}

// W3, W6, W7: whichever pages are damaged, what is answered is what was answered, or that something is damaged; and Salvage has all else.
func TestDamagedPages(t *testing.T) {
	whole := flock(t)
	answers := map[string]string{"t": said(t, whole, "select * from t"), "u": said(t, whole, "select * from u")}
	for set := range 1 << 7 {
		var places []int
		for no := range 7 {
			if set>>no&1 == 1 {
				places = append(places, no)
			}
		}
		is := func(no int) bool { return set>>no&1 == 0 }
		s := hurt(t, whole, places...)
		ahead := (is(0) || is(1)) && (is(2) || is(3))
		fine := map[string]bool{"t": ahead && is(4) && is(5), "u": ahead && is(6)}
		if s.Hurt == (fine["t"] && fine["u"]) {
			t.Errorf("%v: %s", places, show(s))
		}
		for name, want := range answers {
			if !fine[name] && s.Hurt {
				want = "error 11"
			}
			if got := said(t, s, "select * from "+name); got != want {
				t.Errorf("%v: %s; want %s", places, got, want)
			}
		}
		saved, lost, err := rescue(t, s)
		rows := 0
		for no, count := range map[int]int{4: 3, 5: 1, 6: 1} {
			if is(no) {
				rows += count
			}
		}
		had := 0
		for _, x := range saved.DB.Tables {
			had += len(x.Rows)
		}
		if is(2) || is(3) {
			if len(saved.DB.Tables) != 2 || had != rows || len(lost) > 0 {
				t.Errorf("%v: %s, %v", places, show(saved), lost)
			}
		} else if len(saved.DB.Tables) != 0 || len(lost) != rows {
			t.Errorf("%v: %s, %v", places, show(saved), lost)
		}
		if err != api.OK || saved.Hurt || !slices.Equal(saved.Store.Data.Pages, written(t, saved.DB)) {
			t.Errorf("%v: %s, %d", places, show(saved), err)
		}
	}
}

// landings tells numbers of which writes of so many may land: none, all, each one alone, all but one, drawn ones.
func landings(d *draw, n int) []uint64 {
	l := []uint64{0, math.MaxUint64, d.next(), d.next()}
	for i := range n {
		l = append(l, 1<<i, ^(1 << i))
	}
	return l
}

// W5, W7: behind a crash all of a command is kept, or nothing, and all, once the journal says so.
func TestCrash(t *testing.T) {
	d := draw(1)
	whole := flock(t)
	for _, c := range []struct {
		s    api.Session
		line string
	}{
		{New(), createBirds}, {whole, "insert into u values (1, 2)"}, {whole, "update t set b = 'y'"}, {whole, "delete from t where a > 1"}, {whole, "drop table t"}, {whole, "create table v (a)"}, {hurt(t, whole, 0, 2, 20), "drop table u"}, {hurt(t, whole, 1), "delete from u where a = 1"}, {after(t, whole, "begin", "drop table u", "update t set a = a + 10"), "commit"}, {hurt(t, whole, 3), "update u set b = 0"},
	} {
		next := after(t, c.s, c.line)
		ops, _ := Ops(c.s, c.line)
		for done := range len(ops) + 1 {
			at, err := journal.Play(c.s.Store, ops[:done])
			if err != api.OK {
				t.Fatal(err)
			}
			for _, data := range landings(&d, len(at.Data.Waiting)) {
				for _, kept := range landings(&d, len(at.Journal.Waiting)) {
					got, err := crash(t, c.s, c.line, done, data, kept)
					want := c.s
					if done == len(ops) || done == len(ops)-1 && kept&1 == 1 {
						want = next
					}
					if err != api.OK || got.InTx || got.Hurt || !same(got.Kept, want.Kept) || !same(got.DB, want.Kept) || !same(got.Store.Data, want.Store.Data) {
						t.Fatalf("%s, %d, %b, %b: %s, %d; want %s", c.line, done, data, kept, show(got), err, show(want))
					}
				}
			}
		}
	}
}

// W5: what is no number of ops; what of a crash behind commands that write nothing; errors of the command first.
func TestCrashErrors(t *testing.T) {
	s := birds(t)
	begun := after(t, s, "begin", "delete from birds")
	for i, c := range []struct {
		s    api.Session
		line string
		done int
		want api.Errno
	}{
		{s, "delete from birds", 0, api.OK}, {s, "delete from birds", -1, api.ErrRange}, {s, "delete from birds", math.MinInt, api.ErrRange}, {s, "delete from birds", math.MaxInt, api.ErrRange}, {s, "delete from birds", 12, api.OK}, {s, "delete from birds", 13, api.ErrRange},
		{s, askBirds, 0, api.OK}, {s, askBirds, 1, api.ErrRange}, {s, "begin", 0, api.OK}, {s, "begin", 1, api.ErrRange}, {begun, "insert into birds values (1, null)", 0, api.OK}, {begun, "insert into birds values (1, null)", 1, api.ErrRange}, {begun, "rollback", 0, api.OK}, {begun, "rollback", 1, api.ErrRange}, {begun, "commit", 0, api.OK}, {begun, "commit", 13, api.ErrRange},
		{s, "nonsense", -1, api.ErrForm}, {s, "commit", 99, api.ErrState}, {s, "select * from t", -1, api.ErrNone}, {s, insertBirds, 99, api.ErrTwice}, {begun, "begin", -1, api.ErrState}, {hurt(t, s, 4), "delete from birds", -1, api.ErrRead}, {hurt(t, s, 4), askBirds, -1, api.ErrSum}, {hurt(t, s, 0, 1), "select * from t", 1, api.ErrSum}, {hurt(t, flock(t), 4), "select * from u", 0, api.OK}, {hurt(t, flock(t), 4), "select * from u", 1, api.ErrRange},
	} {
		got, err := crash(t, c.s, c.line, c.done, math.MaxUint64, math.MaxUint64)
		if err != c.want || got.InTx {
			t.Errorf("%d: %s, %d: %s, %d; want %d", i, c.line, c.done, show(got), err, c.want)
		}
		if c.done == 0 && err == api.OK && (!same(got.DB, c.s.Kept) || !same(got.Store, c.s.Store)) {
			t.Errorf("%d: %s: %s; want %s", i, c.line, show(got), show(c.s))
		}
	}
}

// W6: damage at each place and outside of them, by texts of each length; what was begun is gone.
func TestDamage(t *testing.T) {
	s := birds(t)
	for i, c := range []struct {
		no   int
		page string
		want api.Errno
	}{
		{-1, "x", api.ErrRange}, {0, "x", api.OK}, {4, "", api.OK}, {30, "x", api.OK}, {31, "x", api.ErrRange}, {31, "", api.ErrRange}, {32, "x", api.ErrRange}, {math.MinInt, "", api.ErrRange}, {math.MaxInt, "", api.ErrRange}, {0, long(256), api.OK}, {0, long(257), api.ErrMany}, {0, long(1 << 20), api.ErrMany}, {30, long(257), api.ErrMany}, {31, long(257), api.ErrRange}, {-1, long(257), api.ErrRange},
	} {
		if got, err := damage(t, s, c.no, c.page); err != c.want {
			t.Errorf("%d: %s, %d; want %d", i, show(got), err, c.want)
		}
	}
	begun := after(t, s, "begin", "insert into birds values (3, 'owl')")
	for no := range 31 {
		got, err := damage(t, begun, no, "x")
		if err != api.OK || got.InTx || got.Hurt != (no == 4) || got.Store.Data.Pages[no] != "x" || len(got.Store.Data.Pages) != max(5, no+1) || len(got.Store.Data.Waiting) > 0 {
			t.Errorf("%d: %s, %d", no, show(got), err)
		}
		if !got.Hurt && !same(got.DB, s.DB) || got.Hurt && !same(got.DB, api.DB{}) {
			t.Errorf("%d: %s; want %s", no, show(got), show(s))
		}
		// A page that comes back.
		page := ""
		if no < 5 {
			page = s.Store.Data.Pages[no]
		}
		if back, err := damage(t, got, no, page); err != api.OK || !same(back, s) {
			t.Errorf("%d: %s, %d; want %s", no, show(back), err, show(s))
		}
	}
	// The last pages become blank: the file ends ahead of them.
	if got := after(t, s, "delete from birds"); len(got.Store.Data.Pages) != 4 {
		t.Errorf("%s", show(got))
	} else if got, _ = damage(t, got, 2, ""); len(got.Store.Data.Pages) != 4 {
		t.Errorf("%s", show(got))
	} else if got, _ = damage(t, got, 3, ""); len(got.Store.Data.Pages) != 2 || !got.Hurt {
		t.Errorf("%s", show(got))
	}
	// All of it.
	none := s
	for no := range 5 {
		none, _ = damage(t, none, no, "")
	}
	if !none.Hurt || len(none.Store.Data.Pages) != 0 {
		t.Errorf("%s", show(none))
	}
	if got, lost, err := rescue(t, none); err != api.OK || len(lost) > 0 || !same(got.DB, New().DB) || !same(got.Store.Data, New().Store.Data) {
		t.Errorf("%s, %v, %d", show(got), lost, err)
	}
}

func packed(l ...api.Entry) string {
	body, err := leaf.Pack(l)
	if err != api.OK {
		panic(err)
	}
	return body
}

// W6: what Salvage has, what it lost, and that it is kept.
func TestSalvage(t *testing.T) {
	s := birds(t)
	stray := func(s api.Session, no, owner int, l ...api.Entry) api.Session {
		next, err := damage(t, s, no, sheet(no, api.Leaf, owner, packed(l...)))
		if err != api.OK {
			t.Fatal(err)
		}
		return next
	}
	for i, c := range []struct {
		s    api.Session
		want string
		lost string
	}{
		{s, "2 birds(1: 1 'wren', 2: 2 'rook')", "[]"}, {after(t, s, "begin", "delete from birds"), "2 birds(1: 1 'wren', 2: 2 'rook')", "[]"}, {hurt(t, s, 0), "2 birds(1: 1 'wren', 2: 2 'rook')", "[]"}, {hurt(t, s, 0, 1), "2 birds(1: 1 'wren', 2: 2 'rook')", "[]"}, {hurt(t, s, 4), "2 birds()", "[]"}, {hurt(t, s, 2, 3), "2", "[{1 {1 [{1 1 } {2 0 wren}]}} {1 {2 [{1 2 } {2 0 rook}]}}]"}, {hurt(t, s, 0, 1, 2, 3, 4), "1", "[]"}, {New(), "1", "[]"},
		// What stands behind the last page is found too, whatever the head says.
		{stray(s, 20, 1, entry(3, whole(3), null)), "2 birds(1: 1 'wren', 2: 2 'rook', 3: 3 NULL)", "[]"}, {stray(s, 30, 7, entry(3, null)), "8 birds(1: 1 'wren', 2: 2 'rook')", "[{7 {3 [{0 0 }]}}]"}, {stray(s, 30, 999, entry(3, null)), "1000 birds(1: 1 'wren', 2: 2 'rook')", "[{999 {3 [{0 0 }]}}]"}, {stray(s, 5, 1, entry(3, whole(2), null)), "2 birds(1: 1 'wren', 2: 2 'rook')", "[{1 {3 [{1 2 } {0 0 }]}}]"}, {stray(hurt(t, s, 4), 5, 1, entry(3, whole(2), null)), "2 birds(3: 2 NULL)", "[]"}, {stray(s, 0, 1, entry(3, whole(4), null)), "2 birds(1: 1 'wren', 2: 2 'rook', 3: 4 NULL)", "[]"},
	} {
		got, lost, err := rescue(t, c.s)
		if err != api.OK || tell(got.DB) != c.want || fmt.Sprint(lost) != c.lost {
			t.Errorf("%d: %s, %v, %d; want %s, %s", i, show(got), lost, err, c.want, c.lost)
		}
		if got.InTx || got.Hurt || !same(got.Kept, got.DB) || !slices.Equal(got.Store.Data.Pages, written(t, got.DB)) {
			t.Errorf("%d: %s", i, show(got))
		}
		// There is nothing more to be had, and nothing to be written.
		if again, lost, err := rescue(t, got); err != api.OK || len(lost) > 0 || !same(again, got) {
			t.Errorf("%d: %s, %v, %d; want %s", i, show(again), lost, err, show(got))
		}
	}
	// More than a file has room for.
	pages := []string{sheet(0, api.CatA, 0, packed(entry(1, text("t"), text("0--a"), text("0--b"), text("0--c"), text("0--d"), text("0--e"), text("0--f")), entry(2, text("u"), text("0--a"), text("0--b"), text("0--c"), text("0--d"), text("0--e"), text("0--f"))))}
	for no := 1; no < 31; no++ {
		owner, l := 1, broad(1, "t", 60).Rows[2*no-2:2*no]
		if no > 20 {
			owner = 2
		}
		pages = append(pages, sheet(no, api.Leaf, owner, packed(l...)))
	}
	for size, want := range map[int]api.Errno{28: api.OK, 29: api.ErrMany, 31: api.ErrMany} {
		s := opened(t, pages[:size]...)
		got, lost, err := rescue(t, s)
		if err != want || len(lost) > 0 || !s.Hurt || err == api.OK && len(got.Store.Data.Pages) != 31 {
			t.Errorf("%d: %s, %v, %d; want %d", size, show(got), lost, err, want)
		}
	}
}

// drawnLine: a command, mostly a right one, of few tables with two columns.
func drawnLine(d *draw) string {
	name := d.one("t", "t", "u", "u", "v", "birds")
	number := func() string {
		return d.one("1", "2", "3", "4 + 1", "-7", fmt.Sprint(d.below(1000)), fmt.Sprint(d.below(1000)))
	}
	value := func() string { return d.one("null", "1", "'x'", "'"+long(16)+"'", "'y'", "'"+long(9)+"'") }
	where := func() string {
		return d.one("", " where a = "+number(), " where a > 300", " where b is null", " where b = 'x' or a < 500", " where a / (a - 2) > 0", " where c = 1")
	}
	switch d.below(16) {
	case 0, 1:
		return "create table " + name + d.one(" (a, b)", " (a, b)", " (a integer unique, b)", " (a integer not null, b text)")
	case 2:
		return "drop table " + d.one("v", "birds", name)
	case 3, 4, 5, 6:
		row := func() string { return "(" + number() + ", " + value() + ")" }
		line := "insert into " + name + " values " + row()
		for range d.below(4) {
			line += ", " + row()
		}
		return line
	case 7:
		return "update " + name + " set " + d.one("a = a + 1", "b = 'z'", "a = "+number(), "a = b, b = a") + where()
	case 8:
		return "delete from " + name + d.one(" where a = 1", where())
	case 9, 10:
		return "select " + d.one("*", "a", "count(*)", "a, b", "distinct b", "min(a), max(b)") + " from " + name + where() + d.one("", "", " group by a", " order by 1 desc", " limit 2")
	case 11, 12:
		return d.one("begin", "begin;")
	case 13:
		return "commit"
	case 14:
		return d.one("rollback", "commit")
	}
	return d.one("nonsense", "", "select", "commit ;", "select * from", long(301))
}

// alone: tables without a file.
type alone struct {
	now, kept api.DB
	begun     bool
}

// do does a command to tables alone, and tells its rows, or its error.
func (a *alone) do(line string) string {
	c, err := stmt.Read(line)
	if err != api.OK {
		return fmt.Sprint("error ", int(err))
	}
	if c.Kind >= api.Begin {
		if a.begun == (c.Kind == api.Begin) {
			return "error 4"
		}
		a.begun = c.Kind == api.Begin
		if c.Kind == api.Rollback {
			a.now = a.kept
		}
		a.kept = a.now
		return ""
	}
	next, rows, err := db.Run(a.now, c)
	if err != api.OK {
		return fmt.Sprint("error ", int(err))
	}
	a.now = next
	if !a.begun {
		a.kept = next
	}
	return told(rows)
}

// W7: what a session answers is what tables alone would answer, however often it is opened again.
func TestAlone(t *testing.T) {
	d := draw(2)
	for range 40 {
		s, a := New(), &alone{now: api.DB{Next: 1}, kept: api.DB{Next: 1}}
		for range 60 {
			line := drawnLine(&d)
			if pages, err := layout.Write(a.now); err != api.OK || len(pages) > 25 {
				break
			}
			next, rows, err := exec(t, s, line)
			got := told(rows)
			if err != api.OK {
				got = fmt.Sprint("error ", int(err))
			} else {
				s = next
			}
			if want := a.do(line); got != want || s.InTx != a.begun || !same(s.DB, a.now) || !same(s.Kept, a.kept) {
				t.Fatalf("%s: %s; want %s", line, got, want)
			}
			if d.below(6) == 0 {
				s, _ = open(t, s.Store)
				a.now, a.begun = a.kept, false
			}
		}
	}
}

// drawnPage: what may come to stand at a place of a file.
func drawnPage(d *draw, s api.Session, no int) string {
	pages := s.Store.Data.Pages
	switch d.below(6) {
	case 0:
		return ""
	case 1:
		return d.one("x", long(255), long(256), strings.Repeat("\x00", 256))
	case 2:
		if len(pages) > 0 {
			return pages[d.below(len(pages))]
		}
	case 3:
		return sheet(max(no, 0), 1+d.below(4), d.below(4), packed(entry(int64(1+d.below(9)), whole(int64(d.below(5))), null)))
	case 4:
		return sheet(max(no, 0), api.Head, 0, string([]byte{byte(d.below(4)), byte(d.below(3)), byte(d.below(2)), byte(d.below(3))}))
	}
	if no >= 0 && no < len(pages) && pages[no] != "" {
		b := []byte(pages[no])
		b[d.below(len(b))] ^= byte(1 << d.below(8))
		return string(b)
	}
	return "y"
}

// W1 to W7, P1: whatever is done to a session, one thing behind the other.
func TestDrawn(t *testing.T) {
	d := draw(3)
	counts := map[string]int{}
	for range 120 {
		s := New()
		for range 80 {
			var next api.Session
			var err api.Errno
			what, line := "exec", drawnLine(&d)
			if s.Hurt && d.below(3) == 0 {
				line = d.one("select * from t", "select count(*) from u")
			}
			switch n := d.below(20); {
			case n < 2:
				what = "damage"
				no := d.below(len(s.Store.Data.Pages)+3) - 1
				if d.below(6) == 0 {
					no = 26 + d.below(7)
				}
				next, err = damage(t, s, no, drawnPage(&d, s, no))
			case n == 2 && (s.Hurt || d.below(3) == 0):
				var lost []api.Lost
				what = "salvage"
				next, lost, err = rescue(t, s)
				if len(lost) > 0 {
					counts["lost"]++
				}
			case n < 6:
				what = "crash"
				ops, _ := Ops(s, line)
				done := d.below(len(ops)+3) - 1
				if len(ops) == 0 && d.below(4) > 0 {
					done = 0
				}
				next, err = crash(t, s, line, done, d.next(), d.next())
			default:
				next, _, err = exec(t, s, line)
			}
			if s.Hurt {
				what += " hurt"
			}
			if s.InTx {
				what += " begun"
			}
			counts[fmt.Sprint(what, " ", err == api.OK)]++
			if err == api.OK {
				s = next
			}
		}
	}
	for _, what := range []string{"exec true", "exec false", "exec begun true", "exec begun false", "exec hurt false", "exec hurt true", "crash true", "crash false", "crash begun true", "crash hurt true", "damage true", "damage false", "damage begun true", "damage hurt true", "salvage true", "salvage begun true", "salvage hurt true", "lost"} {
		if counts[what] < 5 {
			t.Errorf("%s: drawn too few: %v", what, counts)
		}
	}
}

// W1, W2, P1: sessions and stores of any kind.
func TestAnySession(t *testing.T) {
	d := draw(4)
	right := []api.Session{New(), birds(t), flock(t), after(t, flock(t), "begin", "drop table t"), hurt(t, birds(t), 4)}
	counts := map[api.Errno]int{}
	for range 3000 {
		s := plain(right[d.below(len(right))])
		other := plain(right[d.below(len(right))])
		for range d.below(3) {
			switch d.below(14) {
			case 0:
				s.DB = other.DB
			case 1:
				s.Kept = other.Kept
			case 2:
				s.Store.Data = other.Store.Data
			case 3:
				s.Store.Journal = other.Store.Journal
			case 4:
				s.InTx = !s.InTx
			case 5:
				s.Hurt = !s.Hurt
			case 6:
				s.Store.Data.Waiting = make([]api.Write, d.below(50))
			case 7:
				s.Store.Journal.Waiting = []api.Write{{No: d.below(40) - 3, Text: long(d.below(262))}}
			case 8:
				s.DB.Next = d.below(5)
			case 9:
				all := sheetsOf(s.Store.Data)
				all[d.below(32)] = long(255 + d.below(7))
				s.Store.Data.Pages = all.disk().Pages
			case 12:
				s.Store.Data.Pages = append(s.Store.Data.Pages, "")
			case 13:
				s.Store.Journal.Pages = append(s.Store.Journal.Pages, "")
			case 10:
				all := sheetsOf(s.Store.Journal)
				all[0] = d.one("J", "J\x01", "J\x03", "J\x20", "x")
				s.Store.Journal = all.disk()
			case 11:
				all := sheetsOf(s.Store.Journal)
				all[d.below(4)] = string([]byte{0, byte(d.below(34))}) + d.one("", "x", long(256))
				s.Store.Journal = all.disk()
			}
		}
		counts[check(t, s)]++
		open(t, s.Store)
		rescue(t, s)
		damage(t, s, d.below(33)-1, drawnPage(&d, s, 0))
		line := drawnLine(&d)
		exec(t, s, line)
		crash(t, s, line, d.below(20)-1, d.next(), d.next())
	}
	for _, err := range []api.Errno{api.OK, api.ErrForm, api.ErrMany, api.ErrRange, api.ErrState} {
		if counts[err] < 20 {
			t.Errorf("%d: drawn too few: %v", err, counts)
		}
	}
}

// all: what each call answers of a session.
type all struct {
	Open, Exec, Crash, Damage, Salvage api.Session
	Rows                               [][]api.Value
	Ops                                []api.Op
	Lost                               []api.Lost
}

func allOf(s api.Session, line string) all {
	var a all
	a.Open, _ = Open(s.Store)
	a.Exec, a.Rows, _ = Exec(s, line)
	a.Ops, _ = Ops(s, line)
	a.Crash, _ = Crash(s, line, len(a.Ops)/2, 5, 5)
	a.Damage, _ = Damage(s, 2, "x")
	a.Salvage, a.Lost, _ = Salvage(s)
	return a
}

func modelAll(s api.Session, line string) all {
	var a all
	a.Open, _ = modelOpen(s.Store)
	x := modelExec(s, line)
	a.Exec, a.Rows, a.Ops = x.Session, x.Rows, x.Ops
	a.Crash, _ = modelCrash(s, line, len(a.Ops)/2, 5, 5)
	a.Damage, _ = modelDamage(s, 2, "x")
	a.Salvage, a.Lost, _ = modelSalvage(s)
	return plain(a)
}

// onlyReadLines: at least one command of each kind, and wrong ones.
func onlyReadLines() []string {
	return []string{"select * from u", "select b, count(*) from u group by b", "create table w (a)", "drop table u", "insert into u values (1, 2)", "update u set a = 5", "delete from u", "delete from u where a = 7", "begin", "commit", "rollback", "nonsense", "select * from w"}
}

func sessions(t *testing.T) []api.Session {
	t.Helper()
	s := flock(t)
	return []api.Session{New(), s, hurt(t, s, 0, 2, 12), after(t, s, "begin"), after(t, s, "begin", "delete from t", "create table x (a)"), hurt(t, s, 4), hurt(t, s, 2, 3), hurt(t, s, 0, 1, 5)}
}

// P2: what is handed in stays what it was, the room behind its lists too; what is answered is new memory, no two lists of it share any, and a later change is not seen in it.
func TestOnlyRead(t *testing.T) {
	for _, right := range sessions(t) {
		for _, line := range onlyReadLines() {
			s := roomy(right)
			was := entirely(s)
			want := modelAll(right, line)
			got, again := allOf(s, line), allOf(s, line)
			if entirely(s) != was {
				t.Fatalf("%s: %s has become %s", line, was, entirely(s))
			}
			if shared(got, s, again) {
				t.Fatalf("%s: %s: memory is shared", line, show(right))
			}
			scribble(reflect.ValueOf(&s).Elem())
			scribble(reflect.ValueOf(&again).Elem())
			if !same(got, want) {
				t.Fatalf("%s: %s: a change is seen in what was answered", line, show(right))
			}
		}
	}
}

// P2: one list that stands at several places of what is handed in.
func TestOneListOften(t *testing.T) {
	s := birds(t)
	s.Kept = s.DB
	for _, line := range []string{"update birds set name = 'x'", "begin", "delete from birds", askBirds} {
		got := allOf(s, line)
		if want := modelAll(plain(s), line); !same(got, want) || shared(got, s) {
			t.Errorf("%s: %v; want %v", line, got, want)
		}
	}
}

// P3: whatever was asked ahead of it, and whoever asks at the same time.
func TestNothingIsKept(t *testing.T) {
	common := sessions(t)
	lines := onlyReadLines()
	var hands sync.WaitGroup
	for seed := range 4 {
		hands.Go(func() {
			d := draw(70 + seed)
			for range 60 {
				s, line := common[d.below(len(common))], lines[d.below(len(lines))]
				want := modelAll(s, line)
				for range 2 {
					if got := allOf(s, line); !same(got, want) {
						t.Errorf("%s: %s: %v; want %v", show(s), line, got, want)
					}
				}
			}
		})
	}
	hands.Wait()
	if !same(New(), common[0]) {
		t.Errorf("%s", show(New()))
	}
}

// W6: what Salvage lost is what can be had of no table (chapter 22), of the file as it is.
func TestSalvageLost(t *testing.T) {
	s := hurt(t, flock(t), 2, 3)
	_, want, _ := salvage.Save(s.Store.Data.Pages)
	got, lost, err := rescue(t, s)
	if err != api.OK || len(lost) != 5 || !same(lost, want) || tell(got.DB) != "3" {
		t.Errorf("%s, %v, %d; want %v", show(got), lost, err, want)
	}
}

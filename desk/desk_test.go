package desk

import (
	"fmt"
	"math"
	"reflect"
	"slices"
	"strings"
	"sync"
	"testing"

	"starling/api"
	"starling/engine"
)

// X1: rows of each kind and width, none, and empty ones.
func TestShow(t *testing.T) {
	for i, c := range []struct {
		rows [][]api.Value
		want string
		err  api.Errno
	}{
		{nil, "", api.OK}, {[][]api.Value{}, "", api.OK}, {[][]api.Value{{}}, "\n", api.OK}, {[][]api.Value{{}, nil, {}}, "\n\n\n", api.OK}, {[][]api.Value{{null}}, "NULL\n", api.OK}, {[][]api.Value{{whole(1)}, {whole(-5)}}, "1\n-5\n", api.OK}, {[][]api.Value{{whole(math.MinInt64), whole(math.MaxInt64)}}, "-9223372036854775808, 9223372036854775807\n", api.OK}, {[][]api.Value{{text("wren"), text("it's")}}, "'wren', 'it''s'\n", api.OK}, {[][]api.Value{{text(""), blob("")}}, "'', x''\n", api.OK}, {[][]api.Value{{blob("\x00\xff'"), text("\n")}}, "x'00ff27', '\n'\n", api.OK}, {[][]api.Value{{text(", "), text("\xff\x00")}}, "', ', '\xff\x00'\n", api.OK}, {[][]api.Value{slices.Repeat(values{null}, 8)}, "NULL, NULL, NULL, NULL, NULL, NULL, NULL, NULL\n", api.OK}, {slices.Repeat([][]api.Value{{whole(7)}}, 40), strings.Repeat("7\n", 40), api.OK},
		// What Check of chapter 11 says.
		{slices.Repeat([][]api.Value{{whole(7)}}, 41), "", api.ErrMany}, {[][]api.Value{slices.Repeat(values{null}, 9)}, "", api.ErrMany}, {[][]api.Value{{null}, {}}, "", api.ErrForm}, {[][]api.Value{{}, {null}}, "", api.ErrForm}, {[][]api.Value{{{Kind: 4}}}, "", api.ErrKind}, {[][]api.Value{{{Kind: -1}}}, "", api.ErrKind}, {[][]api.Value{{{N: 1}}}, "", api.ErrForm}, {[][]api.Value{{{Kind: api.Int, S: "x"}}}, "", api.ErrForm}, {[][]api.Value{{text(long(17))}}, "", api.ErrMany}, {[][]api.Value{{whole(1)}, {text(long(16))}, {{Kind: 9}}}, "", api.ErrKind},
		{[][]api.Value{{{Kind: 9}}, {}}, "", api.ErrKind}, {[][]api.Value{{null}, {}, {{Kind: 9}}}, "", api.ErrForm}, {slices.Repeat([][]api.Value{{{Kind: 9}}}, 41), "", api.ErrMany},
	} {
		if got, err := Show(c.rows); got != c.want || err != c.err || err == api.OK && got != modelShow(c.rows) {
			t.Errorf("%d: %q, %d; want %q, %d", i, got, err, c.want, c.err)
		}
	}
}

// X1: drawn rows.
func TestShowDrawn(t *testing.T) {
	d := draw(1)
	for range 3000 {
		rows := drawnRows(&d)
		if got, err := Show(rows); err != api.OK || got != modelShow(rows) {
			t.Fatalf("%v: %q, %d; want %q", rows, got, err, modelShow(rows))
		}
	}
}

func drawnRows(d *draw) [][]api.Value {
	width := d.below(9)
	var rows [][]api.Value
	for range d.below(41) {
		row := values{}
		for range width {
			s := d.one("", "'", "a", "\n", "\x00\xff", "it's", "''", long(16))
			row = append(row, []api.Value{null, whole(int64(d.next())), whole(int64(d.below(3))), text(s), blob(s)}[d.below(5)])
		}
		rows = append(rows, row)
	}
	return rows
}

// X2: texts of one line and of many, of blank ones, with an error between others.
func TestRun(t *testing.T) {
	const create, insert = "create table t (a, b)", "insert into t values (1, 'it''s'), (2, null)"
	for i, c := range []struct {
		in, want string
		tables   int
	}{
		{"", "", 0}, {" ", "", 0}, {"\n", "", 0}, {"  \n   \n\n ", "", 0}, {create, "ok\n", 1}, {create + "\n", "ok\n", 1}, {"\n\n" + create, "ok\n", 1}, {"  " + create + "  ", "ok\n", 1}, {create + ";", "ok\n", 1},
		{create + "\n" + insert + "\nselect * from t", "ok\nok\n1, 'it''s'\n2, NULL\nok\n", 1}, {create + "\nselect * from t\nselect count(*) from t", "ok\nok\n0\nok\n", 1}, {create + "\n \n" + insert + "\n\n\nselect a from t order by 1 desc -- the last first", "ok\nok\n2\n1\nok\n", 1},
		// A line with an error says so, and the others go on.
		{"oops\n" + create + "\noops\n" + insert + "\nselect c from t\nselect a from t", "error 1\nok\nerror 1\nok\nerror 5\n1\n2\nok\n", 1}, {create + "\n" + create + "\ndrop table t\ndrop table t", "ok\nerror 6\nok\nerror 5\n", 0}, {"commit\nrollback\nbegin\nbegin\ncommit\ncommit", "error 4\nerror 4\nok\nerror 4\nok\nerror 4\n", 0}, {create + "\ninsert into t values (1/0, 1)\ninsert into t values (9223372036854775807+1, 1)\ninsert into t values ('a' + 1, 1)\ninsert into t values (1)", "ok\nerror 9\nerror 8\nerror 7\nerror 1\n", 1}, {create + "\n" + insert + "\nselect a from t order by 2\nselect a from t where a like 1", "ok\nok\nerror 3\nerror 7\n", 1},
		// A begin from line to line.
		{create + "\n" + insert + "\nbegin\ndelete from t\nselect * from t\nrollback\nselect count(*) from t", "ok\nok\nok\nok\nok\nok\n2\nok\n", 1}, {"begin\n" + create + "\noops\n" + insert + "\ncommit\nselect max(a) from t", "ok\nok\nerror 1\nok\nok\n2\nok\n", 1},
		// Only byte 32 is a blank, and only byte 10 ends a line.
		{"\t", "error 1\n", 0}, {"\r\n" + create, "error 1\nok\n", 1}, {create + "\r\n", "ok\n", 1}, {"\x00", "error 1\n", 0}, {"--", "error 1\n", 0}, {";", "error 1\n", 0}, {"create table t\n(a, b)", "error 1\nerror 1\n", 0}, {create + "\rdrop table t", "error 1\n", 0}, {"\u00a0", "error 1\n", 0}, {create + "\ninsert into t values ('a\nb', 1)", "ok\nerror 1\nerror 1\n", 1},
		// A line that is too long for a command, of blanks too, where other things stand in it.
		{strings.Repeat(" ", 301), "", 0}, {strings.Repeat(" ", 1<<16) + "\n" + create, "ok\n", 1}, {strings.Repeat(" ", 300) + create, "error 2\n", 0}, {long(301) + "\n" + create, "error 2\nok\n", 1},
	} {
		s, out, err := run(t, engine.New(), c.in)
		if err != api.OK || out != c.want || len(s.DB.Tables) != c.tables {
			t.Errorf("%d: %q, %d, %v; want %q", i, out, err, s.DB, c.want)
		}
	}
}

// X2: as many lines as there may be, and one too many, of whatever kind; what is wrong with the session comes first.
func TestLines(t *testing.T) {
	wrong := birds(t)
	wrong.Hurt = true
	for i, c := range []struct {
		in   string
		want api.Errno
		out  string
	}{
		{strings.Repeat("\n", 22), api.OK, ""}, {strings.Repeat("\n", 23), api.OK, ""}, {strings.Repeat("\n", 24), api.ErrMany, ""}, {strings.Repeat("\n", 1<<16), api.ErrMany, ""}, {strings.Repeat(" \n", 24), api.ErrMany, ""}, {strings.Repeat(" \n", 23) + "oops", api.OK, "error 1\n"}, {"begin" + strings.Repeat("\n", 24), api.ErrMany, ""}, {strings.Repeat("\n", 24) + "begin", api.ErrMany, ""}, {strings.Repeat("oops\n", 23) + "oops", api.OK, strings.Repeat("error 1\n", 24)}, {strings.Repeat("oops\n", 24) + "oops", api.ErrMany, ""}, {strings.Repeat("begin\nrollback\n", 12), api.ErrMany, ""}, {strings.Repeat("begin\nrollback\n", 11) + "begin\nrollback", api.OK, strings.Repeat("ok\n", 24)},
	} {
		if s, out, err := run(t, engine.New(), c.in); err != c.want || out != c.out || err != api.OK && !same(s, api.Session{}) {
			t.Errorf("%d: %q, %d; want %q, %d", i, out, err, c.out, c.want)
		}
		if s, out, err := run(t, wrong, c.in); err != api.ErrState || out != "" || !same(s, api.Session{}) {
			t.Errorf("%d: %q, %d", i, out, err)
		}
	}
	for i, change := range []func(s *api.Session){
		func(s *api.Session) { *s = api.Session{} }, func(s *api.Session) { s.Store.Data.Waiting = []api.Write{{}} }, func(s *api.Session) { s.Store.Journal.Pages[0] = "J\x00" }, func(s *api.Session) { s.DB.Next = 0 }, func(s *api.Session) { s.Kept.Next++ }, func(s *api.Session) { s.Store.Data.Pages[0] = long(261) },
	} {
		s := plain(birds(t))
		change(&s)
		for _, in := range []string{"", "select * from birds", strings.Repeat("\n", 24)} {
			if got, out, err := run(t, s, in); err == api.OK || err != engine.Check(s) || out != "" || !same(got, api.Session{}) {
				t.Errorf("%d: %q, %d", i, out, err)
			}
		}
	}
}

// X2: sessions that are begun, or whose file is damaged, and what becomes of them.
func TestSessions(t *testing.T) {
	s := birds(t)
	begun := after(t, s, "begin", "delete from birds")
	for i, c := range []struct {
		s        api.Session
		in, want string
		begun    bool
		left     int
	}{
		{s, "", "", false, 2}, {s, "begin", "ok\n", true, 2}, {s, "begin\ndelete from birds", "ok\nok\n", true, 0}, {begun, "", "", true, 0}, {begun, "begin\nselect * from birds", "error 4\nok\n", true, 0}, {begun, "rollback\nselect name from birds", "ok\n'wren'\n'rook'\nok\n", false, 2}, {begun, "commit\nrollback", "ok\nerror 4\n", false, 0}, {s, "select * from nests", "x'00'\nok\n", false, 2},
	} {
		got, out, err := run(t, c.s, c.in)
		if err != api.OK || out != c.want || got.InTx != c.begun || len(got.DB.Tables[0].Rows) != c.left {
			t.Errorf("%d: %q, %d; want %q", i, out, err, c.want)
		}
	}
	damaged := hurt(t, s, 4)
	got, out, err := run(t, damaged, "select * from nests\n\nselect * from birds\ninsert into nests values (1)\nbegin\ncommit\nselect * from eggs\nselect count(*) from nests")
	if want := "x'00'\nok\nerror 11\nerror 12\nerror 12\nerror 4\nerror 5\n1\nok\n"; err != api.OK || out != want || !same(got, damaged) {
		t.Errorf("%q, %d; want %q", out, err, want)
	}
	if _, out, _ := run(t, hurt(t, s, 0, 3), "insert into nests values (1)\nselect * from nests"); out != "ok\nx'00'\n1\nok\n" {
		t.Errorf("%q", out)
	}
}

func drawnText(d *draw) string {
	name := func() string { return d.one("birds", "birds", "nests", "t") }
	var lines []string
	for range 1 + d.below(12) + d.below(4)*d.below(6) {
		n := d.below(1000)
		lines = append(lines, d.one("", "  ", "begin", "begin", "commit", "commit", "rollback", "oops", "select * from "+name(), "select * from "+name(), "select count(*) from "+name()+";", "create table t (a, b)", "drop table "+name(), fmt.Sprintf("insert into birds values (%d, 'it''s'), (%d, null)", n, n+1), fmt.Sprintf("insert into %s values (%d)", name(), n), "delete from "+name()+" where a > 500", "update birds set name = 'x' where id = 2", " select name from birds limit 3 "))
	}
	return strings.Join(lines, "\n")
}

// X2, X3: drawn texts; of each, what follows a line is not seen in what was answered up to it, and line by line it is the same as at once.
func TestDrawn(t *testing.T) {
	d := draw(2)
	many := 0
	for range 250 {
		s := birds(t)
		if d.below(6) == 0 {
			s = hurt(t, s, d.below(6))
		}
		in := drawnText(&d)
		got, out, err := run(t, s, in)
		if err != api.OK {
			many++
			continue
		}
		lines := strings.Split(in, "\n")
		step, told := s, ""
		for i, line := range lines {
			next, part, err := run(t, step, line)
			step, told = next, told+part
			_, ahead, other := Run(s, strings.Join(lines[:i+1], "\n"))
			if err != api.OK || other != api.OK || ahead != told || !strings.HasPrefix(out, told) {
				t.Fatalf("%q: %q, then %q", in, told, out)
			}
		}
		if told != out || !same(step, got) {
			t.Fatalf("%q: %q, then %q", in, told, out)
		}
	}
	if many < 1 || many > 100 {
		t.Errorf("%d of too many lines", many)
	}
}

// P2: what is handed in stays what it was, the room behind its lists too; the session that is answered is new memory, whatever was done to it.
func TestOnlyRead(t *testing.T) {
	s := birds(t)
	for _, right := range []api.Session{engine.New(), s, after(t, s, "begin"), after(t, s, "begin", "delete from birds"), hurt(t, s, 4), hurt(t, s, 0)} {
		for _, in := range []string{"", "\n", "oops", "select * from nests", "insert into nests values (1)", "begin", "commit", "oops\nrollback\noops"} {
			x := roomy(right)
			was := entirely(x)
			want, _, _ := modelRun(plain(right), in)
			got, _, err := Run(x, in)
			again, _, _ := Run(x, in)
			if err != api.OK || entirely(x) != was || shared(got, x, again) {
				t.Fatalf("%q: %s has become %s, or memory is shared", in, was, entirely(x))
			}
			scribble(reflect.ValueOf(&x).Elem())
			scribble(reflect.ValueOf(&again).Elem())
			if !same(got, want) {
				t.Fatalf("%q: a change is seen in what was answered", in)
			}
		}
	}
	d := draw(3)
	for range 200 {
		rows := roomy(drawnRows(&d))
		was := entirely(rows)
		if Show(rows); entirely(rows) != was {
			t.Fatalf("%s has become %s", was, entirely(rows))
		}
	}
}

// P3: whatever was asked ahead of it, and whoever asks at the same time.
func TestNothingIsKept(t *testing.T) {
	s := birds(t)
	var hands sync.WaitGroup
	for seed := range 4 {
		hands.Go(func() {
			d := draw(80 + seed)
			for range 40 {
				in, rows := drawnText(&d), drawnRows(&d)
				want, wantOut, wanted := modelRun(s, in)
				for range 2 {
					if got, out, err := Run(s, in); err != wanted || out != wantOut || !same(got, want) {
						t.Errorf("Run(%q) = %q, %d; want %q, %d", in, out, err, wantOut, wanted)
					}
					if got, err := Show(rows); err != api.OK || got != modelShow(rows) {
						t.Errorf("%v: %q, %d", rows, got, err)
					}
				}
			}
		})
	}
	hands.Wait()
}

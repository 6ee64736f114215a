package engine

import (
	"encoding/binary"
	"fmt"
	"hash/crc32"
	"math/bits"
	"reflect"
	"slices"
	"strings"
	"testing"

	"starling/api"
	"starling/db"
	"starling/disk"
	"starling/layout"
	"starling/salvage"
	"starling/stmt"
	"starling/value"
)

// draw: numbers that are the same each time.
type draw uint64

func (d *draw) next() uint64 {
	*d = *d*6364136223846793005 + 1442695040888963407
	x := uint64(*d)
	return bits.RotateLeft64(x^x>>29, 23) * 0x9E3779B97F4A7C15
}

func (d *draw) below(n int) int { return int(d.next() >> 11 % uint64(n)) }

func (d *draw) coin() bool { return d.below(2) == 0 }

func (d *draw) one(l ...string) string { return l[d.below(len(l))] }

type values = []api.Value

var null api.Value

func whole(n int64) api.Value { return api.Value{Kind: api.Int, N: n} }
func text(s string) api.Value { return api.Value{Kind: api.Text, S: s} }
func long(n int) string       { return strings.Repeat("w", n) }

func entry(id int64, row ...api.Value) api.Entry { return api.Entry{Id: id, Row: row} }

func form(id int, name string, cols ...api.Column) api.Schema {
	return api.Schema{Id: id, Name: name, Cols: cols}
}

func table(s api.Schema, rows ...api.Entry) api.Table { return api.Table{Schema: s, Rows: rows} }

func dbOf(next int, l ...api.Table) api.DB { return api.DB{Next: next, Tables: l} }

// sheet tells a page as bytes, by other code than that of chapter 12.
func sheet(no, kind, owner int, body string) string {
	b := binary.BigEndian.AppendUint16(nil, uint16(no))
	b = append(b, byte(kind))
	b = binary.BigEndian.AppendUint16(b, uint16(owner))
	b = binary.BigEndian.AppendUint16(b, uint16(len(body)))
	b = append(b, body...)
	b = append(b, make([]byte, 252-len(b))...)
	return string(binary.LittleEndian.AppendUint32(b, crc32.Checksum(b, crc32.MakeTable(crc32.Castagnoli))))
}

// sheets: all places of a disk.
type sheets [32]string

func sheetsOf(d api.Disk) sheets {
	var all sheets
	copy(all[:], d.Pages)
	return all
}

func (all sheets) disk() api.Disk {
	var d api.Disk
	for no, text := range all {
		if text != "" {
			d.Pages = append(d.Pages, make([]string, no+1-len(d.Pages))...)
			d.Pages[no] = text
		}
	}
	return d
}

// modelCheckStore as in W1, up to the tables.
func modelCheckStore(s api.Store) api.Errno {
	for _, d := range []api.Disk{s.Data, s.Journal} {
		if err := disk.Check(d); err != api.OK {
			return err
		}
	}
	if sheetsOf(s.Data)[31] != "" {
		return api.ErrMany
	}
	if len(s.Data.Waiting)+len(s.Journal.Waiting) > 0 || strings.HasPrefix(sheetsOf(s.Journal)[0], "J") {
		return api.ErrState
	}
	return api.OK
}

// modelCheck holds a session against the one that it must be.
func modelCheck(s api.Session) api.Errno {
	if err := modelCheckStore(s.Store); err != api.OK {
		return err
	}
	d, err := layout.Read(s.Store.Data.Pages)
	if err != api.OK {
		if !same(s, api.Session{Store: s.Store, Hurt: true}) {
			return api.ErrState
		}
		return api.OK
	}
	if !same(s, api.Session{Store: s.Store, DB: s.DB, Kept: d, InTx: s.InTx}) {
		return api.ErrState
	}
	if err := db.Check(s.DB); err != api.OK {
		return err
	}
	if !s.InTx && !same(s.DB, d) {
		return api.ErrState
	}
	return api.OK
}

// modelOpen takes back by hand what was begun.
func modelOpen(s api.Store) (api.Session, api.Errno) {
	for _, d := range []api.Disk{s.Data, s.Journal} {
		if err := disk.Check(d); err != api.OK {
			return api.Session{}, err
		}
	}
	if len(s.Data.Waiting)+len(s.Journal.Waiting) > 0 {
		return api.Session{}, api.ErrState
	}
	data, kept := sheetsOf(s.Data), sheetsOf(s.Journal)
	if strings.HasPrefix(kept[0], "J") {
		if len(kept[0]) != 2 || kept[0][1] > 31 {
			return api.Session{}, api.ErrForm
		}
		for _, page := range kept[1 : kept[0][1]+1] {
			if len(page) < 2 || page[0] != 0 || page[1] > 31 {
				return api.Session{}, api.ErrForm
			}
			data[page[1]] = page[2:]
		}
		kept[0] = "-"
	}
	if data[31] != "" {
		return api.Session{}, api.ErrMany
	}
	out := api.Session{Store: api.Store{Data: data.disk(), Journal: kept.disk()}}
	d, err := layout.Read(out.Store.Data.Pages)
	out.DB, out.Kept, out.Hurt = d, d, err != api.OK
	return out, api.OK
}

// modelKeep as in W4, writing each place and each op by hand.
func modelKeep(s api.Session, d api.DB) (api.Session, []api.Op, api.Errno) {
	pages, err := layout.Write(d)
	if err != api.OK {
		return api.Session{}, nil, err
	}
	was, is, kept := sheetsOf(s.Store.Data), sheetsOf(api.Disk{Pages: pages}), sheetsOf(s.Store.Journal)
	var first, second []api.Op
	for no := range is {
		if was[no] == is[no] {
			continue
		}
		if len(was[no]) > 256 {
			return api.Session{}, nil, api.ErrMany
		}
		first = append(first, api.Op{Kind: 2, No: len(first) + 1, Text: string([]byte{0, byte(no)}) + was[no]})
		second = append(second, api.Op{Kind: 1, No: no, Text: is[no]})
		kept[len(first)] = first[len(first)-1].Text
	}
	if len(first) == 0 {
		return api.Session{Store: s.Store, DB: d, Kept: d}, nil, api.OK
	}
	kept[0] = "-"
	hot := api.Op{Kind: 2, Text: "J" + string([]byte{byte(len(first))})}
	ops := slices.Concat(first, []api.Op{{Kind: 4}, hot, {Kind: 4}}, second, []api.Op{{Kind: 3}, {Kind: 2, Text: "-"}, {Kind: 4}})
	return api.Session{Store: api.Store{Data: is.disk(), Journal: kept.disk()}, DB: d, Kept: d}, ops, api.OK
}

// answer: all that a command comes to.
type answer struct {
	Session api.Session
	Rows    [][]api.Value
	Ops     []api.Op
	Err     api.Errno
}

func failed(err api.Errno) answer { return answer{Err: err} }

func modelExec(s api.Session, line string) answer {
	if err := modelCheck(s); err != api.OK {
		return failed(err)
	}
	c, err := stmt.Read(line)
	if err != api.OK {
		return failed(err)
	}
	isEnd := c.Kind == api.Commit || c.Kind == api.Rollback
	switch {
	case s.Hurt && !isEnd && c.Kind != api.Select:
		return failed(api.ErrRead)
	case s.InTx && c.Kind == api.Begin, !s.InTx && isEnd:
		return failed(api.ErrState)
	case c.Kind == api.Begin:
		s.InTx = true
		return answer{Session: s}
	case c.Kind == api.Rollback:
		return answer{Session: api.Session{Store: s.Store, DB: s.Kept, Kept: s.Kept}}
	case c.Kind == api.Commit:
		return modelKept(s, s.DB)
	}
	tables := s.DB
	if s.Hurt {
		t, err := layout.ReadTable(s.Store.Data.Pages, c.Table)
		if err != api.OK {
			return failed(err)
		}
		tables = dbOf(1000, t)
	}
	d, rows, err := db.Run(tables, c)
	switch {
	case err != api.OK:
		return failed(err)
	case c.Kind == api.Select:
		return answer{Session: s, Rows: rows}
	case s.InTx:
		s.DB = d
		return answer{Session: s}
	}
	return modelKept(s, d)
}

func modelKept(s api.Session, d api.DB) answer {
	next, ops, err := modelKeep(s, d)
	return answer{Session: next, Ops: ops, Err: err}
}

// modelCrash does ops to all places of both disks, keeping what waits in lists.
func modelCrash(s api.Session, line string, done int, data, journal uint64) (api.Session, api.Errno) {
	x := modelExec(s, line)
	if x.Err != api.OK {
		return api.Session{}, x.Err
	}
	if done < 0 || done > len(x.Ops) {
		return api.Session{}, api.ErrRange
	}
	all := [2]sheets{sheetsOf(s.Store.Data), sheetsOf(s.Store.Journal)}
	var waits [2][]api.Op
	land := func(which int, landed uint64) {
		for i, o := range waits[which] {
			if landed>>i&1 == 1 {
				all[which][o.No] = o.Text
			}
		}
		waits[which] = nil
	}
	for _, o := range x.Ops[:done] {
		if o.Kind < 3 {
			waits[o.Kind-1] = append(waits[o.Kind-1], o)
		} else {
			land(o.Kind-3, ^uint64(0))
		}
	}
	land(0, data)
	land(1, journal)
	return modelOpen(api.Store{Data: all[0].disk(), Journal: all[1].disk()})
}

func modelDamage(s api.Session, no int, page string) (api.Session, api.Errno) {
	switch err := modelCheck(s); {
	case err != api.OK:
		return api.Session{}, err
	case no < 0 || no > 30:
		return api.Session{}, api.ErrRange
	case len(page) > 256:
		return api.Session{}, api.ErrMany
	}
	all := sheetsOf(s.Store.Data)
	all[no] = page
	return modelOpen(api.Store{Data: all.disk(), Journal: s.Store.Journal})
}

func modelSalvage(s api.Session) (api.Session, []api.Lost, api.Errno) {
	if err := modelCheck(s); err != api.OK {
		return api.Session{}, nil, err
	}
	d, lost, _ := salvage.Save(s.Store.Data.Pages)
	out, _, err := modelKeep(s, d)
	if err != api.OK {
		lost = nil
	}
	return out, lost, err
}

// check holds Check against the model, and answers what it tells.
func check(t *testing.T, s api.Session) api.Errno {
	t.Helper()
	got, want := Check(s), modelCheck(s)
	if got != want {
		t.Fatalf("Check of %s = %d; want %d", show(s), got, want)
	}
	return got
}

// sound tells of a session that was answered whether it is right, or nothing beside an error.
func sound(t *testing.T, s api.Session, err api.Errno) {
	t.Helper()
	if found := check(t, s); err == api.OK && found != api.OK {
		t.Fatalf("%s is answered: %d", show(s), found)
	}
	if err != api.OK && !same(s, api.Session{}) {
		t.Fatalf("beside error %d: %s", err, show(s))
	}
}

// exec holds Exec and Ops against the model, and answers what Exec tells.
func exec(t *testing.T, s api.Session, line string) (api.Session, [][]api.Value, api.Errno) {
	t.Helper()
	want := modelExec(s, line)
	next, rows, err := Exec(s, line)
	if err != want.Err || !same(next, want.Session) || !same(rows, want.Rows) {
		t.Fatalf("%s: %s: %s, %v, %d; want %s, %v, %d", show(s), line, show(next), rows, err, show(want.Session), want.Rows, want.Err)
	}
	ops, err := Ops(s, line)
	if err != want.Err || !same(ops, want.Ops) {
		t.Fatalf("%s: %s: %v, %d; want %v, %d", show(s), line, ops, err, want.Ops, want.Err)
	}
	sound(t, next, err)
	return next, rows, err
}

func open(t *testing.T, s api.Store) (api.Session, api.Errno) {
	t.Helper()
	want, wanted := modelOpen(s)
	got, err := Open(s)
	if err != wanted || !same(got, want) {
		t.Fatalf("Open(%v) = %s, %d; want %s, %d", s, show(got), err, show(want), wanted)
	}
	sound(t, got, err)
	return got, err
}

func crash(t *testing.T, s api.Session, line string, done int, data, journal uint64) (api.Session, api.Errno) {
	t.Helper()
	want, wanted := modelCrash(s, line, done, data, journal)
	got, err := Crash(s, line, done, data, journal)
	if err != wanted || !same(got, want) {
		t.Fatalf("%s: %s, %d, %b, %b: %s, %d; want %s, %d", show(s), line, done, data, journal, show(got), err, show(want), wanted)
	}
	sound(t, got, err)
	return got, err
}

func damage(t *testing.T, s api.Session, no int, page string) (api.Session, api.Errno) {
	t.Helper()
	want, wanted := modelDamage(s, no, page)
	got, err := Damage(s, no, page)
	if err != wanted || !same(got, want) {
		t.Fatalf("%s: Damage(%d, %q) = %s, %d; want %s, %d", show(s), no, page, show(got), err, show(want), wanted)
	}
	sound(t, got, err)
	return got, err
}

func rescue(t *testing.T, s api.Session) (api.Session, []api.Lost, api.Errno) {
	t.Helper()
	want, wantLost, wanted := modelSalvage(s)
	got, lost, err := Salvage(s)
	if err != wanted || !same(got, want) || !same(lost, wantLost) {
		t.Fatalf("Salvage of %s = %s, %v, %d; want %s, %v, %d", show(s), show(got), lost, err, show(want), wantLost, wanted)
	}
	sound(t, got, err)
	return got, lost, err
}

// show tells a session: its tables, what was kept, how many pages the file and the journal have, and its marks.
func show(s api.Session) string {
	out := fmt.Sprintf("%s | %s | %d %d", tell(s.DB), tell(s.Kept), len(s.Store.Data.Pages), len(s.Store.Journal.Pages))
	if s.InTx {
		out += " begun"
	}
	if s.Hurt {
		out += " hurt"
	}
	return out
}

// tell tells tables: Next, and of each its name and its rows.
func tell(d api.DB) string {
	out := fmt.Sprint(d.Next)
	for _, t := range d.Tables {
		var rows []string
		for _, e := range t.Rows {
			rows = append(rows, fmt.Sprint(e.Id, ": ", told([][]api.Value{e.Row})))
		}
		out += fmt.Sprintf(" %s(%s)", t.Schema.Name, strings.Join(rows, ", "))
	}
	return out
}

// told tells rows, with a ; between.
func told(rows [][]api.Value) string {
	var l []string
	for _, row := range rows {
		var words []string
		for _, v := range row {
			word, _ := value.Show(v)
			words = append(words, word)
		}
		l = append(l, strings.Join(words, " "))
	}
	return strings.Join(l, "; ")
}

// written answers the pages of tables that must be right.
func written(t *testing.T, d api.DB) []string {
	t.Helper()
	pages, err := layout.Write(d)
	if err != api.OK {
		t.Fatalf("%v can't be written: %d", d, err)
	}
	return pages
}

// opened answers the session of a file.
func opened(t *testing.T, pages ...string) api.Session {
	t.Helper()
	s, err := open(t, api.Store{Data: api.Disk{Pages: pages}})
	if err != api.OK {
		t.Fatalf("%q can't be opened: %d", pages, err)
	}
	return s
}

// after answers a session behind commands, none of which may fail.
func after(t *testing.T, s api.Session, lines ...string) api.Session {
	t.Helper()
	for _, line := range lines {
		next, _, err := exec(t, s, line)
		if err != api.OK {
			t.Fatalf("%s: %d", line, err)
		}
		s = next
	}
	return s
}

// hurt answers a session of whose file some pages are damaged.
func hurt(t *testing.T, s api.Session, places ...int) api.Session {
	t.Helper()
	for i, no := range places {
		next, err := damage(t, s, no, []string{"x", "", long(256)}[i%3])
		if err != api.OK {
			t.Fatalf("%d: %d", no, err)
		}
		s = next
	}
	return s
}

// plain answers what is the same, in memory of its own, with each empty list nil.
func plain[T any](x T) T {
	tidy(reflect.ValueOf(&x).Elem())
	return x
}

func tidy(v reflect.Value) {
	switch v.Kind() {
	case reflect.Slice:
		if v.Len() == 0 {
			v.SetZero()
			return
		}
		v.Set(reflect.AppendSlice(reflect.Zero(v.Type()), v))
		for i := range v.Len() {
			tidy(v.Index(i))
		}
	case reflect.Struct:
		for i := range v.NumField() {
			tidy(v.Field(i))
		}
	}
}

func same[T any](a, b T) bool { return reflect.DeepEqual(plain(a), plain(b)) }

// memory tells where each list of a value lies, its spare room too.
func memory(v reflect.Value) [][2]uintptr {
	var out [][2]uintptr
	switch v.Kind() {
	case reflect.Slice:
		if v.Cap() > 0 {
			out = append(out, [2]uintptr{v.Pointer(), v.Pointer() + uintptr(v.Cap())*v.Type().Elem().Size()})
		}
		for i := range v.Len() {
			out = append(out, memory(v.Index(i))...)
		}
	case reflect.Struct:
		for i := range v.NumField() {
			out = append(out, memory(v.Field(i))...)
		}
	}
	return out
}

// shared tells whether two lists of an answer share memory, or one of them and one of what was handed in.
func shared(answer any, handed ...any) bool {
	own := memory(reflect.ValueOf(answer))
	all := slices.Clone(own)
	for _, x := range handed {
		all = append(all, memory(reflect.ValueOf(x))...)
	}
	for i, a := range own {
		for _, b := range all[i+1:] {
			if a[0] < b[1] && b[0] < a[1] {
				return true
			}
		}
	}
	return false
}

// roomy answers what is the same, with spare room behind each list, filled.
func roomy[T any](x T) T {
	widen(reflect.ValueOf(&x).Elem())
	return x
}

func widen(v reflect.Value) {
	switch v.Kind() {
	case reflect.Slice:
		n := v.Len()
		wide := reflect.MakeSlice(v.Type(), n+2, n+2)
		reflect.Copy(wide, v)
		for i := range n {
			widen(wide.Index(i))
			wide.Index(n).Set(wide.Index(i))
		}
		v.Set(wide.Slice(0, n))
	case reflect.Struct:
		for i := range v.NumField() {
			widen(v.Field(i))
		}
	}
}

// entire tells all that a value has, the spare room of its lists too.
func entire(v reflect.Value) []any {
	switch v.Kind() {
	case reflect.Slice:
		out := []any{v.Len()}
		for i := range v.Cap() {
			out = append(out, entire(v.Slice(0, v.Cap()).Index(i))...)
		}
		return out
	case reflect.Struct:
		var out []any
		for i := range v.NumField() {
			out = append(out, entire(v.Field(i))...)
		}
		return out
	}
	return []any{v.Interface()}
}

func entirely(x any) string { return fmt.Sprintf("%#v", entire(reflect.ValueOf(x))) }

// scribble writes all over what a value has, the spare room of its lists too.
func scribble(v reflect.Value) {
	switch v.Kind() {
	case reflect.Slice:
		for i := range v.Cap() {
			one := v.Slice(0, v.Cap()).Index(i)
			scribble(one)
			one.SetZero()
		}
	case reflect.Struct:
		for i := range v.NumField() {
			scribble(v.Field(i))
		}
	}
}

package layout

import (
	"encoding/binary"
	"fmt"
	"hash/crc32"
	"math"
	"math/bits"
	"reflect"
	"slices"
	"strings"
	"testing"

	"starling/api"
	"starling/catalog"
	"starling/db"
	"starling/leaf"
)

// draw: numbers that are the same each time.
type draw uint64

func (d *draw) next() uint64 {
	*d = *d*6364136223846793005 + 1442695040888963407
	x := uint64(*d)
	return bits.RotateLeft64(x^x>>29, 23) * 0x9E3779B97F4A7C15
}

func (d *draw) below(n int) int { return int(d.next() >> 11 % uint64(n)) }

func (d *draw) coin() bool { return d.below(2) == 0 }

func (d *draw) one(l ...string) string { return l[d.below(len(l))] }

type values = []api.Value

var null api.Value

func whole(n int64) api.Value { return api.Value{Kind: api.Int, N: n} }
func text(s string) api.Value { return api.Value{Kind: api.Text, S: s} }
func blob(s string) api.Value { return api.Value{Kind: api.Blob, S: s} }
func long(n int) string       { return strings.Repeat("w", n) }

func entry(id int64, row ...api.Value) api.Entry { return api.Entry{Id: id, Row: row} }

func form(id int, name string, cols ...api.Column) api.Schema {
	return api.Schema{Id: id, Name: name, Cols: cols}
}

func table(s api.Schema, rows ...api.Entry) api.Table { return api.Table{Schema: s, Rows: rows} }

func dbOf(next int, l ...api.Table) api.DB { return api.DB{Next: next, Tables: l} }

// plain answers what is the same, in memory of its own, with each empty list nil.
func plain[T any](x T) T {
	tidy(reflect.ValueOf(&x).Elem())
	return x
}

func tidy(v reflect.Value) {
	switch v.Kind() {
	case reflect.Slice:
		if v.Len() == 0 {
			v.SetZero()
			return
		}
		v.Set(reflect.AppendSlice(reflect.Zero(v.Type()), v))
		for i := range v.Len() {
			tidy(v.Index(i))
		}
	case reflect.Struct:
		for i := range v.NumField() {
			tidy(v.Field(i))
		}
	}
}

func same[T any](a, b T) bool { return reflect.DeepEqual(plain(a), plain(b)) }

// sheet tells a page as bytes, by other code than that of chapter 12; what is wrong with it is not looked at.
func sheet(no, kind, owner int, body string) string {
	b := binary.BigEndian.AppendUint16(nil, uint16(no))
	b = append(b, byte(kind))
	b = binary.BigEndian.AppendUint16(b, uint16(owner))
	b = binary.BigEndian.AppendUint16(b, uint16(len(body)))
	b = append(b, body...)
	b = append(b, make([]byte, 252-len(b))...)
	return string(binary.LittleEndian.AppendUint32(b, crc32.Checksum(b, crc32.MakeTable(crc32.Castagnoli))))
}

// bodyAt answers the Body of the page at a place, if it is one of a kind and an Owner: it must be what sheet tells of it.
func bodyAt(pages []string, no, kind, owner int) (string, bool) {
	if no >= len(pages) || len(pages[no]) != 256 {
		return "", false
	}
	size := int(binary.BigEndian.Uint16([]byte(pages[no][5:])))
	if size > 245 {
		return "", false
	}
	body := pages[no][7 : 7+size]
	return body, pages[no] == sheet(no, kind, owner, body)
}

// numbers tells numbers as bytes, by other code than that of chapter 1.
func numbers(l ...uint64) string {
	var b []byte
	for _, n := range l {
		b = binary.AppendUvarint(b, n)
	}
	return string(b)
}

// modelParts as in U1: entries are packed in lists that grow as long as they can be packed.
func modelParts(l []api.Entry) []string {
	var bodies []string
	for len(l) > 0 {
		body, n := "", 0
		for n < len(l) {
			more, err := leaf.Pack(l[:n+1])
			if err != api.OK {
				break
			}
			body = more
			n++
		}
		bodies = append(bodies, body)
		l = l[n:]
	}
	return bodies
}

// modelWrite as in U1.
func modelWrite(d api.DB) ([]string, api.Errno) {
	if err := db.Check(d); err != api.OK {
		return nil, err
	}
	var forms []api.Schema
	for _, t := range d.Tables {
		forms = append(forms, t.Schema)
	}
	entries, _ := catalog.Rows(forms)
	told := modelParts(entries)
	head := numbers(uint64(d.Next), uint64(len(told)), uint64(len(d.Tables)))
	for _, t := range d.Tables {
		head += numbers(uint64(len(modelParts(t.Rows))))
	}
	var pages []string
	add := func(kind, owner int, bodies ...string) {
		for _, body := range bodies {
			pages = append(pages, sheet(len(pages), kind, owner, body))
		}
	}
	add(1, 0, head, head)
	add(2, 0, told...)
	add(3, 0, told...)
	for _, t := range d.Tables {
		add(4, t.Schema.Id, modelParts(t.Rows)...)
	}
	if len(pages) > 31 {
		return nil, api.ErrMany
	}
	return pages, api.OK
}

// modelHead as in U2: its numbers, nil if it is not right.
func modelHead(pages []string, no int) []uint64 {
	body, ok := bodyAt(pages, no, 1, 0)
	if !ok {
		return nil
	}
	var l []uint64
	for rest := []byte(body); len(rest) > 0; {
		n, size := binary.Uvarint(rest)
		if size <= 0 {
			return nil
		}
		l = append(l, n)
		rest = rest[size:]
	}
	if len(l) < 3 || numbers(l...) != body || l[0] < 1 || l[0] > 1000 || l[2] > 6 || int(l[2]) != len(l)-3 {
		return nil
	}
	all := uint64(2)
	for i, n := range l[1:] {
		if i == 1 {
			continue
		}
		if n > 32 {
			return nil
		}
		all += n
	}
	if all+l[1] > 31 {
		return nil
	}
	return l
}

// modelEntries answers the entries of so many pages, if all can be read.
func modelEntries(pages []string, from, count uint64, kind, owner int) ([]api.Entry, bool) {
	var all []api.Entry
	for no := from; no < from+count; no++ {
		body, ok := bodyAt(pages, int(no), kind, owner)
		l, err := leaf.Unpack(body)
		if !ok || err != api.OK {
			return nil, false
		}
		all = append(all, l...)
	}
	return all, true
}

// modelRight as in U2: whether rows are right for a table.
func modelRight(s api.Schema, rows []api.Entry) bool {
	if leaf.Check(rows) != api.OK {
		return false
	}
	for i, e := range rows {
		if !modelMay(s, rows[:i], e) {
			return false
		}
	}
	return true
}

// modelMay tells whether a row may stand behind others.
func modelMay(s api.Schema, before []api.Entry, e api.Entry) bool {
	if catalog.Fits(s, e.Row) != api.OK {
		return false
	}
	for _, other := range before {
		for c, col := range s.Cols {
			if col.Unique && e.Row[c].Kind != api.Null && e.Row[c] == other.Row[c] {
				return false
			}
		}
	}
	return true
}

// modelForms as in U2: of the first pages of forms that can be read, nil if there are none.
func modelForms(pages []string, size uint64, count int) ([]api.Schema, bool) {
	for i := range 2 {
		entries, ok := modelEntries(pages, 2+uint64(i)*size, size, 2+i, 0)
		forms, err := catalog.Of(entries)
		if ok && err == api.OK && len(forms) == count {
			return forms, true
		}
	}
	return nil, false
}

// modelTables as in U3: Next, and all tables; which of them have rows that can't be read stands beside them.
func modelTables(pages []string) (int, []api.Table, []bool, api.Errno) {
	if len(pages) > 32 {
		return 0, nil, nil, api.ErrMany
	}
	head := modelHead(pages, 0)
	if head == nil {
		head = modelHead(pages, 1)
	}
	if head == nil {
		return 0, nil, nil, api.ErrSum
	}
	next, size, counts := int(head[0]), head[1], head[3:]
	forms, ok := modelForms(pages, size, len(counts))
	if !ok {
		return 0, nil, nil, api.ErrSum
	}
	var tables []api.Table
	var hurt []bool
	at := 2 + 2*size
	for i, s := range forms {
		if s.Id >= next {
			return 0, nil, nil, api.ErrSum
		}
		rows, ok := modelEntries(pages, at, counts[i], 4, s.Id)
		tables = append(tables, table(s, rows...))
		hurt = append(hurt, !ok || !modelRight(s, rows))
		at += counts[i]
	}
	return next, tables, hurt, api.OK
}

// modelRead as in U3.
func modelRead(pages []string) (api.DB, api.Errno) {
	next, tables, hurt, err := modelTables(pages)
	if err == api.OK && slices.Contains(hurt, true) {
		err = api.ErrSum
	}
	if err != api.OK {
		return api.DB{}, err
	}
	return dbOf(next, tables...), api.OK
}

// modelReadTable as in U3.
func modelReadTable(pages []string, name string) (api.Table, api.Errno) {
	_, tables, hurt, err := modelTables(pages)
	if err != api.OK {
		return api.Table{}, err
	}
	for i, t := range tables {
		if t.Schema.Name == name && hurt[i] {
			return api.Table{}, api.ErrSum
		}
		if t.Schema.Name == name {
			return t, api.OK
		}
	}
	return api.Table{}, api.ErrNone
}

// hold holds what is read against the model, and answers it.
func hold(t *testing.T, pages []string) (api.DB, api.Errno) {
	t.Helper()
	got, err := Read(pages)
	want, wanted := modelRead(pages)
	if err != wanted || !same(got, want) {
		t.Fatalf("Read(%q) = %v, %d; want %v, %d", pages, got, err, want, wanted)
	}
	if err == api.OK && db.Check(got) != api.OK {
		t.Fatalf("Read(%q) = %v, which is not right: %d", pages, got, db.Check(got))
	}
	names := []string{"", "t", "u", "v", "none", "T", long(300)}
	for _, x := range got.Tables {
		names = append(names, x.Schema.Name)
	}
	for _, name := range names {
		holdTable(t, pages, name)
	}
	return got, err
}

// holdTable holds what is read of one table against the model, and answers it.
func holdTable(t *testing.T, pages []string, name string) (api.Table, api.Errno) {
	t.Helper()
	got, err := ReadTable(pages, name)
	want, wanted := modelReadTable(pages, name)
	if err != wanted || !same(got, want) {
		t.Fatalf("ReadTable(%q, %q) = %v, %d; want %v, %d", pages, name, got, err, want, wanted)
	}
	return got, err
}

// holdWrite holds what is written against the model, reads it, and answers it.
func holdWrite(t *testing.T, d api.DB) ([]string, api.Errno) {
	t.Helper()
	pages, err := Write(d)
	want, wanted := modelWrite(d)
	if err != wanted || !slices.Equal(pages, want) {
		t.Fatalf("Write(%v) = %q, %d; want %q, %d", d, pages, err, want, wanted)
	}
	if err != api.OK {
		return pages, err
	}
	if got, err := hold(t, pages); err != api.OK || !same(got, d) {
		t.Fatalf("%v is read as %v, %d", d, got, err)
	}
	for _, x := range d.Tables {
		if got, err := holdTable(t, pages, x.Schema.Name); err != api.OK || !same(got, x) {
			t.Fatalf("%v is read as %v, %d", x, got, err)
		}
	}
	return pages, api.OK
}

// written answers the pages of tables, which must be right.
func written(t *testing.T, d api.DB) []string {
	t.Helper()
	pages, err := holdWrite(t, d)
	if err != api.OK {
		t.Fatalf("Write(%v): %d", d, err)
	}
	return pages
}

// with answers pages with another one at a place.
func with(pages []string, no int, s string) []string {
	l := slices.Clone(pages)
	l[no] = s
	return l
}

// drawnValue for a column; few of them are different.
func drawnValue(d *draw, kind int) api.Value {
	if kind == 0 {
		kind = d.below(4)
	}
	switch kind {
	case api.Int:
		return whole([]int64{math.MaxInt64, math.MinInt64, -1, 1 << 62, int64(d.below(100)), int64(d.below(9))}[d.below(6)])
	case api.Text:
		return text(d.one("", "a", "ab", "wren", "\x00", long(15), long(16)))
	case api.Blob:
		return blob(d.one("", "a", "\x00", "\xff\x00", long(16)))
	}
	return null
}

// drawnTable is right, mostly with few rows, or full, or nearly so.
func drawnTable(d *draw, id int, name string, full bool) api.Table {
	t := table(form(id, name))
	for i := range 1 + d.below(6) {
		c := api.Column{Name: string(rune('a'+i)) + d.one("", "", "b", "birds_of_you"[:11]), Kind: d.below(4), NotNull: d.below(4) == 0, Unique: !full && d.below(4) == 0}
		t.Schema.Cols = append(t.Schema.Cols, c)
	}
	count := d.below(8)
	if full || d.below(8) == 0 {
		count = 36 + d.below(5)
	}
	last := int64(0)
	if d.below(8) == 0 {
		last = math.MaxInt64 - 400
	}
	for range count * 2 {
		last += 1 + int64(d.below(3))
		var row values
		for _, c := range t.Schema.Cols {
			v := drawnValue(d, c.Kind)
			switch {
			case c.Unique && v.Kind == api.Int:
				v = whole(last * 3)
			case full && v.Kind > api.Int:
				v.S = long(16)
			}
			row = append(row, v)
		}
		if e := entry(last, row...); len(t.Rows) < count && modelMay(t.Schema, t.Rows, e) {
			t.Rows = append(t.Rows, e)
		}
	}
	return t
}

// drawnDB is right, and mostly not too great for a file.
func drawnDB(d *draw) api.DB {
	out := api.DB{Next: 1 + d.below(3)}
	full := d.below(12) == 0
	for i := range d.below(7) {
		out.Tables = append(out.Tables, drawnTable(d, out.Next, string(rune('t'+i)), full))
		out.Next += 1 + d.below(200)
	}
	if d.below(6) == 0 && out.Next < 999 {
		out.Next = 999 + d.below(2)
	}
	out.Next = min(out.Next, 1000)
	return out
}

// drawnFile has tables as they were written.
func drawnFile(d *draw) []string {
	for {
		if pages, err := modelWrite(drawnDB(d)); err == api.OK {
			return pages
		}
	}
}

// resealed answers a page as it stands there, with some of its parts others and the right sum.
func resealed(d *draw, no int, s string) string {
	if len(s) != 256 {
		return sheet(no, 1+d.below(4), d.below(3), "\x00")
	}
	kind, owner := int(s[2]), int(s[3])<<8+int(s[4])
	body := s[7 : 7+min(245, int(s[6]))]
	switch d.below(7) {
	case 0:
		kind = d.below(6)
	case 1:
		owner = d.below(4)
	case 2:
		body = body[:d.below(len(body)+1)]
	case 3:
		body = (body + string([]byte{byte(d.below(3))}))[:min(245, len(body)+1)]
	case 4:
		b := []byte(body)
		if len(b) > 0 {
			b[d.below(min(len(b), 4+d.below(250)))] = byte(d.below(3) * d.below(86))
		}
		body = string(b)
	case 5:
		b := []byte(body)
		if len(b) > 0 {
			b[d.below(min(len(b), 4))]++
		}
		body = string(b)
	case 6:
		no = d.below(32)
	}
	return sheet(no, kind, owner, body)
}

// spoil damages pages, moves them, or makes others of them.
func spoil(d *draw, pages []string) []string {
	l := slices.Clone(pages)
	for range 1 + d.below(3) {
		if len(l) == 0 {
			return l
		}
		at, other := d.below(len(l)), d.below(len(l))
		if d.coin() {
			at = d.below(min(len(l), 6))
		}
		switch d.below(8) {
		case 0:
			l[at] = d.one("", "x", long(256), long(255), strings.Repeat("\x00", 256))
		case 1:
			l[at], l[other] = l[other], l[at]
		case 2:
			b := []byte(l[at])
			if len(b) > 0 {
				b[d.below(len(b))] ^= byte(1 + d.below(255))
			}
			l[at] = string(b)
		case 3:
			l = l[:at]
		case 4:
			if file := drawnFile(d); at < len(file) {
				l[at] = file[at]
			}
		default:
			l[at] = resealed(d, at, l[at])
		}
	}
	return l
}

// memory tells where each list of a value lies, its spare room too.
func memory(v reflect.Value) [][2]uintptr {
	var out [][2]uintptr
	switch v.Kind() {
	case reflect.Slice:
		if v.Cap() > 0 {
			out = append(out, [2]uintptr{v.Pointer(), v.Pointer() + uintptr(v.Cap())*v.Type().Elem().Size()})
		}
		for i := range v.Len() {
			out = append(out, memory(v.Index(i))...)
		}
	case reflect.Struct:
		for i := range v.NumField() {
			out = append(out, memory(v.Field(i))...)
		}
	}
	return out
}

// shared tells whether two lists of an answer share memory, or one of them and one of what was handed in.
func shared(answer any, handed ...any) bool {
	own := memory(reflect.ValueOf(answer))
	all := slices.Clone(own)
	for _, x := range handed {
		all = append(all, memory(reflect.ValueOf(x))...)
	}
	for i, a := range own {
		for _, b := range all[i+1:] {
			if a[0] < b[1] && b[0] < a[1] {
				return true
			}
		}
	}
	return false
}

// roomy answers what is the same, with spare room behind each list, filled.
func roomy[T any](x T) T {
	widen(reflect.ValueOf(&x).Elem())
	return x
}

func widen(v reflect.Value) {
	switch v.Kind() {
	case reflect.Slice:
		n := v.Len()
		wide := reflect.MakeSlice(v.Type(), n+2, n+2)
		reflect.Copy(wide, v)
		for i := range n {
			widen(wide.Index(i))
			wide.Index(n).Set(wide.Index(i))
		}
		v.Set(wide.Slice(0, n))
	case reflect.Struct:
		for i := range v.NumField() {
			widen(v.Field(i))
		}
	}
}

// entire tells all that a value has, the spare room of its lists too.
func entire(v reflect.Value) []any {
	switch v.Kind() {
	case reflect.Slice:
		out := []any{v.Len()}
		for i := range v.Cap() {
			out = append(out, entire(v.Slice(0, v.Cap()).Index(i))...)
		}
		return out
	case reflect.Struct:
		var out []any
		for i := range v.NumField() {
			out = append(out, entire(v.Field(i))...)
		}
		return out
	}
	return []any{v.Interface()}
}

func entirely(x any) string { return fmt.Sprintf("%#v", entire(reflect.ValueOf(x))) }

// scribble writes all over what a value has, the spare room of its lists too.
func scribble(v reflect.Value) {
	switch v.Kind() {
	case reflect.Slice:
		for i := range v.Cap() {
			one := v.Slice(0, v.Cap()).Index(i)
			scribble(one)
			one.SetZero()
		}
	case reflect.Struct:
		for i := range v.NumField() {
			scribble(v.Field(i))
		}
	}
}

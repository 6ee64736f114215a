package salvage

import (
	"cmp"
	"encoding/binary"
	"fmt"
	"hash/crc32"
	"math"
	"math/bits"
	"reflect"
	"slices"
	"strings"
	"testing"

	"starling/api"
	"starling/catalog"
	"starling/db"
	"starling/layout"
	"starling/leaf"
)

// draw: numbers that are the same each time.
type draw uint64

func (d *draw) next() uint64 {
	*d = *d*6364136223846793005 + 1442695040888963407
	x := uint64(*d)
	return bits.RotateLeft64(x^x>>29, 23) * 0x9E3779B97F4A7C15
}

func (d *draw) below(n int) int { return int(d.next() >> 11 % uint64(n)) }

func (d *draw) coin() bool { return d.below(2) == 0 }

func (d *draw) one(l ...string) string { return l[d.below(len(l))] }

type values = []api.Value

var null api.Value

func whole(n int64) api.Value { return api.Value{Kind: api.Int, N: n} }
func text(s string) api.Value { return api.Value{Kind: api.Text, S: s} }
func blob(s string) api.Value { return api.Value{Kind: api.Blob, S: s} }
func long(n int) string       { return strings.Repeat("w", n) }

func entry(id int64, row ...api.Value) api.Entry { return api.Entry{Id: id, Row: row} }

func form(id int, name string, cols ...api.Column) api.Schema {
	return api.Schema{Id: id, Name: name, Cols: cols}
}

func table(s api.Schema, rows ...api.Entry) api.Table { return api.Table{Schema: s, Rows: rows} }

func dbOf(next int, l ...api.Table) api.DB { return api.DB{Next: next, Tables: l} }

// plain answers what is the same, in memory of its own, with each empty list nil.
func plain[T any](x T) T {
	tidy(reflect.ValueOf(&x).Elem())
	return x
}

func tidy(v reflect.Value) {
	switch v.Kind() {
	case reflect.Slice:
		if v.Len() == 0 {
			v.SetZero()
			return
		}
		v.Set(reflect.AppendSlice(reflect.Zero(v.Type()), v))
		for i := range v.Len() {
			tidy(v.Index(i))
		}
	case reflect.Struct:
		for i := range v.NumField() {
			tidy(v.Field(i))
		}
	}
}

func same[T any](a, b T) bool { return reflect.DeepEqual(plain(a), plain(b)) }

// sheet tells a page as bytes, by other code than that of chapter 12; what is wrong with it is not looked at.
func sheet(no, kind, owner int, body string) string {
	b := binary.BigEndian.AppendUint16(nil, uint16(no))
	b = append(b, byte(kind))
	b = binary.BigEndian.AppendUint16(b, uint16(owner))
	b = binary.BigEndian.AppendUint16(b, uint16(len(body)))
	b = append(b, body...)
	b = append(b, make([]byte, 252-len(b))...)
	return string(binary.LittleEndian.AppendUint32(b, crc32.Checksum(b, crc32.MakeTable(crc32.Castagnoli))))
}

// pageAt answers the page at a place, if it can be opened there: it must be what sheet tells of it.
func pageAt(pages []string, no int) (api.Page, bool) {
	if no >= len(pages) || len(pages[no]) != 256 {
		return api.Page{}, false
	}
	b := []byte(pages[no])
	p := api.Page{No: no, Kind: int(b[2]), Owner: int(binary.BigEndian.Uint16(b[3:]))}
	size := int(binary.BigEndian.Uint16(b[5:]))
	if p.Kind < 1 || p.Kind > 4 || p.Owner > 999 || size > 245 {
		return api.Page{}, false
	}
	p.Body = pages[no][7 : 7+size]
	return p, pages[no] == sheet(no, p.Kind, p.Owner, p.Body)
}

// numbers tells numbers as bytes, by other code than that of chapter 1.
func numbers(l ...uint64) string {
	var b []byte
	for _, n := range l {
		b = binary.AppendUvarint(b, n)
	}
	return string(b)
}

// modelNext as in V4: of the head at a place, 0 if it is not right.
func modelNext(pages []string, no int) int {
	p, ok := pageAt(pages, no)
	if !ok || p.Kind != 1 || p.Owner != 0 {
		return 0
	}
	var l []uint64
	for rest := []byte(p.Body); len(rest) > 0; {
		n, size := binary.Uvarint(rest)
		if size <= 0 {
			return 0
		}
		l = append(l, n)
		rest = rest[size:]
	}
	if len(l) < 3 || numbers(l...) != p.Body || l[0] < 1 || l[0] > 1000 || l[2] > 6 || int(l[2]) != len(l)-3 || l[1] > 32 {
		return 0
	}
	all := 2 + 2*l[1]
	for _, n := range l[3:] {
		if n > 32 {
			return 0
		}
		all += n
	}
	if all > 31 {
		return 0
	}
	return int(l[0])
}

// modelFound answers what was found of a kind, in order: of each entry the page's Owner beside it.
func modelFound(pages []string, kind int) []api.Lost {
	var l []api.Lost
	for no := range pages {
		p, ok := pageAt(pages, no)
		entries, err := leaf.Unpack(p.Body)
		if !ok || err != api.OK || p.Kind != kind {
			continue
		}
		for _, e := range entries {
			l = append(l, api.Lost{Table: p.Owner, Entry: e})
		}
	}
	return l
}

// modelForms as in V2: by their Ids.
func modelForms(pages []string) map[int]*api.Table {
	taken := map[int]*api.Table{}
	names := map[string]int{}
	for _, f := range append(modelFound(pages, 2), modelFound(pages, 3)...) {
		l, err := catalog.Of([]api.Entry{f.Entry})
		if f.Table != 0 || err != api.OK || len(taken) > 5 || taken[l[0].Id] != nil || names[l[0].Name] != 0 {
			continue
		}
		taken[l[0].Id] = &api.Table{Schema: l[0]}
		names[l[0].Name]++
	}
	return taken
}

// modelMay as in V3: whether a row may stand beside others.
func modelMay(t api.Table, e api.Entry) bool {
	if len(t.Rows) > 39 || catalog.Fits(t.Schema, e.Row) != api.OK {
		return false
	}
	for _, other := range t.Rows {
		if other.Id == e.Id {
			return false
		}
		for c, col := range t.Schema.Cols {
			if col.Unique && e.Row[c].Kind != api.Null && e.Row[c] == other.Row[c] {
				return false
			}
		}
	}
	return true
}

// modelSave as in V1 to V4.
func modelSave(pages []string) (api.DB, []api.Lost, api.Errno) {
	if len(pages) > 32 {
		return api.DB{}, nil, api.ErrMany
	}
	taken := modelForms(pages)
	var lost []api.Lost
	above := 0
	for _, f := range modelFound(pages, 4) {
		if t := taken[f.Table]; t != nil && modelMay(*t, f.Entry) {
			t.Rows = append(t.Rows, f.Entry)
			continue
		}
		lost = append(lost, f)
		above = max(above, f.Table)
	}
	var d api.DB
	for id := range 1000 {
		if t := taken[id]; t != nil {
			slices.SortFunc(t.Rows, func(a, b api.Entry) int { return cmp.Compare(a.Id, b.Id) })
			d.Tables = append(d.Tables, *t)
			above = max(above, id)
		}
	}
	d.Next = cmp.Or(modelNext(pages, 0), modelNext(pages, 1), 1)
	if d.Next <= above {
		d.Next = above + 1
	}
	return d, lost, api.OK
}

// hold holds what is saved against the model, and answers it.
func hold(t *testing.T, pages []string) (api.DB, []api.Lost, api.Errno) {
	t.Helper()
	got, lost, err := Save(pages)
	want, wantLost, wanted := modelSave(pages)
	if err != wanted || !same(got, want) || !same(lost, wantLost) {
		t.Fatalf("Save(%q) = %v, %v, %d; want %v, %v, %d", pages, got, lost, err, want, wantLost, wanted)
	}
	if err == api.OK && db.Check(got) != api.OK {
		t.Fatalf("Save(%q) = %v, which is not right: %d", pages, got, db.Check(got))
	}
	return got, lost, err
}

// written answers the pages of tables, which must be right.
func written(t *testing.T, d api.DB) []string {
	t.Helper()
	pages, err := layout.Write(d)
	if err != api.OK {
		t.Fatalf("Write(%v): %d", d, err)
	}
	return pages
}

// packed tells entries as a Body, which must be right.
func packed(l ...api.Entry) string {
	body, err := leaf.Pack(l)
	if err != api.OK {
		panic(fmt.Sprint(l, err))
	}
	return body
}

// formEntry tells a table's form as an entry.
func formEntry(id int64, name string, cols ...string) api.Entry {
	e := entry(id, text(name))
	for _, c := range cols {
		e.Row = append(e.Row, text(c))
	}
	return e
}

// with answers pages with another one at a place.
func with(pages []string, no int, s string) []string {
	l := slices.Clone(pages)
	l[no] = s
	return l
}

// drawnValue for a column; few of them are different.
func drawnValue(d *draw, kind int) api.Value {
	if kind == 0 {
		kind = d.below(4)
	}
	switch kind {
	case api.Int:
		return whole([]int64{math.MaxInt64, math.MinInt64, -1, 1 << 62, int64(d.below(100)), int64(d.below(9))}[d.below(6)])
	case api.Text:
		return text(d.one("", "a", "ab", "wren", "\x00", long(15), long(16)))
	case api.Blob:
		return blob(d.one("", "a", "\x00", "\xff\x00", long(16)))
	}
	return null
}

// drawnTable is right, mostly with few rows, or full, or nearly so.
func drawnTable(d *draw, id int, name string, full bool) api.Table {
	t := table(form(id, name))
	for i := range 1 + d.below(6) {
		c := api.Column{Name: string(rune('a'+i)) + d.one("", "", "b", "birds_of_you"[:11]), Kind: d.below(4), NotNull: d.below(4) == 0, Unique: !full && d.below(4) == 0}
		t.Schema.Cols = append(t.Schema.Cols, c)
	}
	count := d.below(8)
	if full || d.below(8) == 0 {
		count = 36 + d.below(5)
	}
	last := int64(0)
	if d.below(8) == 0 {
		last = math.MaxInt64 - 400
	}
	for range count * 2 {
		last += 1 + int64(d.below(3))
		var row values
		for _, c := range t.Schema.Cols {
			v := drawnValue(d, c.Kind)
			switch {
			case c.Unique && v.Kind == api.Int:
				v = whole(last * 3)
			case full && v.Kind > api.Int:
				v.S = long(16)
			}
			row = append(row, v)
		}
		if e := entry(last, row...); len(t.Rows) < count && modelMay(t, e) {
			t.Rows = append(t.Rows, e)
		}
	}
	return t
}

// drawnDB is right, and mostly not too great for a file.
func drawnDB(d *draw) api.DB {
	out := api.DB{Next: 1 + d.below(3)}
	full := d.below(12) == 0
	for i := range d.below(7) {
		out.Tables = append(out.Tables, drawnTable(d, out.Next, string(rune('t'+i)), full))
		out.Next += 1 + d.below(200)
	}
	if d.below(6) == 0 && out.Next < 999 {
		out.Next = 999 + d.below(2)
	}
	out.Next = min(out.Next, 1000)
	return out
}

// drawnFile has tables as they were written.
func drawnFile(d *draw) []string {
	for {
		if pages, err := layout.Write(drawnDB(d)); err == api.OK {
			return pages
		}
	}
}

// resealed answers a page as it stands there, with some of its parts others and the right sum.
func resealed(d *draw, no int, s string) string {
	if len(s) != 256 {
		return sheet(no, 1+d.below(4), d.below(3), "\x00")
	}
	kind, owner := int(s[2]), int(s[3])<<8+int(s[4])
	body := s[7 : 7+min(245, int(s[6]))]
	switch d.below(7) {
	case 0:
		kind = d.below(6)
	case 1:
		owner = d.below(4)
	case 2:
		body = body[:d.below(len(body)+1)]
	case 3:
		body = (body + string([]byte{byte(d.below(3))}))[:min(245, len(body)+1)]
	case 4:
		b := []byte(body)
		if len(b) > 0 {
			b[d.below(min(len(b), 4+d.below(250)))] = byte(d.below(3) * d.below(86))
		}
		body = string(b)
	case 5:
		b := []byte(body)
		if len(b) > 0 {
			b[d.below(min(len(b), 4))]++
		}
		body = string(b)
	case 6:
		no = d.below(32)
	}
	return sheet(no, kind, owner, body)
}

// moved answers a page as if it had been written to another place.
func moved(no int, s string) string {
	if len(s) != 256 {
		return s
	}
	return sheet(no, int(s[2]), int(s[3])<<8+int(s[4]), s[7:7+min(245, int(s[6]))])
}

// spoil damages pages, moves them, or makes others of them.
func spoil(d *draw, pages []string) []string {
	l := slices.Clone(pages)
	for range 1 + d.below(5) {
		if len(l) == 0 {
			return l
		}
		at, other := d.below(len(l)), d.below(len(l))
		switch d.below(9) {
		case 0:
			l[at] = d.one("", "x", long(256), long(255), strings.Repeat("\x00", 256))
		case 1:
			l[at], l[other] = l[other], l[at]
		case 2:
			l[at], l[other] = moved(at, l[other]), moved(other, l[at])
		case 3:
			b := []byte(l[at])
			if len(b) > 0 {
				b[d.below(len(b))] ^= byte(1 + d.below(255))
			}
			l[at] = string(b)
		case 4:
			l = l[:at]
		case 5, 6:
			for _, s := range drawnFile(d)[d.below(2):] {
				if len(l) < 32 && d.coin() {
					l = append(l, moved(len(l), s))
				}
			}
		default:
			l[at] = resealed(d, at, l[at])
		}
	}
	return l
}

// memory tells where each list of a value lies, its spare room too.
func memory(v reflect.Value) [][2]uintptr {
	var out [][2]uintptr
	switch v.Kind() {
	case reflect.Slice:
		if v.Cap() > 0 {
			out = append(out, [2]uintptr{v.Pointer(), v.Pointer() + uintptr(v.Cap())*v.Type().Elem().Size()})
		}
		for i := range v.Len() {
			out = append(out, memory(v.Index(i))...)
		}
	case reflect.Struct:
		for i := range v.NumField() {
			out = append(out, memory(v.Field(i))...)
		}
	}
	return out
}

// shared tells whether two lists of an answer share memory, or one of them and one of what was handed in.
func shared(answer any, handed ...any) bool {
	own := memory(reflect.ValueOf(answer))
	all := slices.Clone(own)
	for _, x := range handed {
		all = append(all, memory(reflect.ValueOf(x))...)
	}
	for i, a := range own {
		for _, b := range all[i+1:] {
			if a[0] < b[1] && b[0] < a[1] {
				return true
			}
		}
	}
	return false
}

// roomy answers what is the same, with spare room behind each list, filled.
func roomy[T any](x T) T {
	widen(reflect.ValueOf(&x).Elem())
	return x
}

func widen(v reflect.Value) {
	switch v.Kind() {
	case reflect.Slice:
		n := v.Len()
		wide := reflect.MakeSlice(v.Type(), n+2, n+2)
		reflect.Copy(wide, v)
		for i := range n {
			widen(wide.Index(i))
			wide.Index(n).Set(wide.Index(i))
		}
		v.Set(wide.Slice(0, n))
	case reflect.Struct:
		for i := range v.NumField() {
			widen(v.Field(i))
		}
	}
}

// entire tells all that a value has, the spare room of its lists too.
func entire(v reflect.Value) []any {
	switch v.Kind() {
	case reflect.Slice:
		out := []any{v.Len()}
		for i := range v.Cap() {
			out = append(out, entire(v.Slice(0, v.Cap()).Index(i))...)
		}
		return out
	case reflect.Struct:
		var out []any
		for i := range v.NumField() {
			out = append(out, entire(v.Field(i))...)
		}
		return out
	}
	return []any{v.Interface()}
}

func entirely(x any) string { return fmt.Sprintf("%#v", entire(reflect.ValueOf(x))) }

// scribble writes all over what a value has, the spare room of its lists too.
func scribble(v reflect.Value) {
	switch v.Kind() {
	case reflect.Slice:
		for i := range v.Cap() {
			one := v.Slice(0, v.Cap()).Index(i)
			scribble(one)
			one.SetZero()
		}
	case reflect.Struct:
		for i := range v.NumField() {
			scribble(v.Field(i))
		}
	}
}

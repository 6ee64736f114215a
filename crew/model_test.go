package crew

import (
	"fmt"
	"hash/crc32"
	"math/bits"
	"reflect"
	"slices"
	"strings"
	"testing"

	"starling/api"
	"starling/eval"
	"starling/expr"
	"starling/lex"
	"starling/page"
	"starling/value"
)

// draw: numbers that are the same each time.
type draw uint64

func (d *draw) next() uint64 {
	*d = *d*6364136223846793005 + 1442695040888963407
	x := uint64(*d)
	return bits.RotateLeft64(x^x>>29, 23) * 0x9E3779B97F4A7C15
}

func (d *draw) below(n int) int { return int(d.next() >> 11 % uint64(n)) }

func (d *draw) text(n int) string {
	b := make([]byte, n)
	for i := range b {
		b[i] = byte(d.below(256))
	}
	return string(b)
}

type rows = [][]api.Value

var null api.Value

func num(n int64) api.Value   { return api.Value{Kind: api.Int, N: n} }
func text(s string) api.Value { return api.Value{Kind: api.Text, S: s} }
func blob(s string) api.Value { return api.Value{Kind: api.Blob, S: s} }
func long(n int) string       { return strings.Repeat("w", n) }

// list makes so many rows of so many Nulls.
func list(n, width int) rows {
	l := make(rows, n)
	for i := range l {
		l[i] = make([]api.Value, width)
	}
	return l
}

// numbered makes so many rows, each with its place and what is left of it by 4.
func numbered(n int) rows {
	l := list(n, 2)
	for i := range l {
		l[i] = []api.Value{num(int64(i)), num(int64(i % 4))}
	}
	return l
}

func parsed(t *testing.T, s string) []api.Node {
	t.Helper()
	l, _, err := lex.Lex(s)
	if err != api.OK {
		t.Fatalf("%s: %d", s, err)
	}
	e, err := expr.Parse(l)
	if err != api.OK {
		t.Fatalf("%s: %d", s, err)
	}
	return e
}

// sealed answers so many right pages, of each kind, each with a Body of another length.
func sealed(t *testing.T, n int) []string {
	t.Helper()
	var pages []string
	for no := range n {
		s, err := page.Seal(right(no))
		if err != api.OK {
			t.Fatalf("%d: %d", no, err)
		}
		pages = append(pages, s)
	}
	return pages
}

func right(no int) api.Page {
	return api.Page{No: no, Kind: no%4 + 1, Owner: 31 * no, Body: strings.Repeat("b", 7*no)}
}

// closed sets the right sum behind what a page of 256 bytes has ahead of it.
func closed(s string) string {
	c := crc32.Checksum([]byte(s[:252]), crc32.MakeTable(crc32.Castagnoli))
	return s[:252] + string([]byte{byte(c), byte(c >> 8), byte(c >> 16), byte(c >> 24)})
}

// with answers a page with another byte at a place, and the right sum.
func with(s string, at int, b byte) string {
	return closed(s[:at] + string([]byte{b}) + s[at+1:])
}

// fault: what is done to a page, and what Open tells of it then.
type fault struct {
	damage func(s string) string
	err    api.Errno
}

func faults() []fault {
	return []fault{
		{func(s string) string { return "" }, api.ErrForm},
		{func(s string) string { return s[1:] }, api.ErrForm},
		{func(s string) string { return s + "\x00" }, api.ErrForm},
		{func(s string) string { return s[:100] + string([]byte{s[100] ^ 1}) + s[101:] }, api.ErrSum},
		{func(s string) string { return strings.Repeat("\x00", 256) }, api.ErrSum},
		{func(s string) string { return with(s, 1, s[1]+1) }, api.ErrSum},
		{func(s string) string { return with(s, 2, 5) }, api.ErrKind},
		{func(s string) string { return with(s, 3, 4) }, api.ErrRange},
		{func(s string) string { return with(s, 5, 1) }, api.ErrMany},
		{func(s string) string { return with(s, 251, 1) }, api.ErrForm},
	}
}

func modelWorkers(workers int) api.Errno {
	for n := 1; n <= 8; n++ {
		if n == workers {
			return api.OK
		}
	}
	return api.ErrRange
}

func modelOpen(pages []string, workers int) ([]api.Page, []api.Errno, api.Errno) {
	if len(pages) > 32 {
		return nil, nil, api.ErrMany
	}
	if err := modelWorkers(workers); err != api.OK {
		return nil, nil, err
	}
	var opened []api.Page
	var errs []api.Errno
	for no, s := range pages {
		p, err := page.Open(no, s)
		opened, errs = append(opened, p), append(errs, err)
	}
	return opened, errs, api.OK
}

func modelSums(l []string) ([]uint32, api.Errno) {
	if len(l) > 40 {
		return nil, api.ErrMany
	}
	var sums []uint32
	for _, s := range l {
		sums = append(sums, crc32.Checksum([]byte(s), crc32.MakeTable(crc32.Castagnoli)))
	}
	return sums, api.OK
}

// modelFilter goes from row to row, as chapter 11 says.
func modelFilter(l rows, cols []string, e []api.Node, workers int) (rows, api.Errno) {
	if err := modelWorkers(workers); err != api.OK {
		return nil, err
	}
	if err := modelCheck(l); err != api.OK {
		return nil, err
	}
	if err := expr.Check(e); err != api.OK {
		return nil, err
	}
	var out rows
	for _, r := range l {
		switch truth, err := eval.Truth(e, cols, r); {
		case err != api.OK:
			return nil, err
		case truth == api.True:
			out = append(out, r)
		}
	}
	return out, api.OK
}

func modelCheck(l rows) api.Errno {
	if len(l) > 40 {
		return api.ErrMany
	}
	for _, r := range l {
		if len(r) > 8 {
			return api.ErrMany
		}
		if len(r) != len(l[0]) {
			return api.ErrForm
		}
		for _, v := range r {
			if err := value.Check(v); err != api.OK {
				return err
			}
		}
	}
	return api.OK
}

// open holds Open against the model, and tells what it answers.
func open(t *testing.T, pages []string, workers int) ([]api.Page, []api.Errno, api.Errno) {
	t.Helper()
	opened, errs, err := Open(pages, workers)
	wantOpened, wantErrs, want := modelOpen(pages, workers)
	if err != want || !slices.Equal(opened, wantOpened) || !slices.Equal(errs, wantErrs) {
		t.Errorf("Open(%q, %d) = %v, %v, %d; want %v, %v, %d", pages, workers, opened, errs, err, wantOpened, wantErrs, want)
	}
	return opened, errs, err
}

// sums holds Sums against the model, and tells what it answers.
func sums(t *testing.T, l []string) ([]uint32, api.Errno) {
	t.Helper()
	got, err := Sums(l)
	if want, wanted := modelSums(l); err != wanted || !slices.Equal(got, want) {
		t.Errorf("Sums(%.200q) = %x, %d; want %x, %d", l, got, err, want, wanted)
	}
	return got, err
}

// filter holds Filter against the model, and tells what it answers.
func filter(t *testing.T, l rows, cols []string, e []api.Node, workers int) (rows, api.Errno) {
	t.Helper()
	got, err := Filter(l, cols, e, workers)
	if want, wanted := modelFilter(l, cols, e, workers); err != wanted || !slices.EqualFunc(got, want, slices.Equal) {
		t.Errorf("Filter(%v, %q, %v, %d) = %v, %d; want %v, %d", l, cols, e, workers, got, err, want, wanted)
	}
	return got, err
}

// memory tells where each list of a value lies, its spare room too.
func memory(v reflect.Value) [][2]uintptr {
	if v.Kind() != reflect.Slice {
		return nil
	}
	var out [][2]uintptr
	if v.Cap() > 0 {
		out = append(out, [2]uintptr{v.Pointer(), v.Pointer() + uintptr(v.Cap())*v.Type().Elem().Size()})
	}
	for i := range v.Len() {
		out = append(out, memory(v.Index(i))...)
	}
	return out
}

// shared tells whether two lists of an answer share memory, or one of them and one of what was handed in.
func shared(answer any, others ...any) bool {
	own := memory(reflect.ValueOf(answer))
	all := slices.Clone(own)
	for _, x := range others {
		all = append(all, memory(reflect.ValueOf(x))...)
	}
	for i, a := range own {
		for _, b := range all[i+1:] {
			if a[0] < b[1] && b[0] < a[1] {
				return true
			}
		}
	}
	return false
}

// roomy answers a list that is the same, with spare room behind it, filled.
func roomy[T any](l []T, room T) []T {
	return append(slices.Clone(l), room, room)[:len(l)]
}

func roomyRows(l rows) rows {
	wide := roomy(l, []api.Value{num(78)})
	for i, r := range wide {
		wide[i] = roomy(r, num(77))
	}
	return wide
}

// entire tells all that a value has, the spare room of its lists too.
func entire(v reflect.Value) []any {
	if v.Kind() != reflect.Slice {
		return []any{v.Interface()}
	}
	out := []any{v.Len()}
	for i := range v.Cap() {
		out = append(out, entire(v.Slice(0, v.Cap()).Index(i))...)
	}
	return out
}

func entirely(l ...any) string {
	out := ""
	for _, x := range l {
		out += fmt.Sprintf("%#v\n", entire(reflect.ValueOf(x)))
	}
	return out
}

// scribble writes all over what a list has, its spare room too.
func scribble(v reflect.Value) {
	if v.Kind() != reflect.Slice {
		return
	}
	for i := range v.Cap() {
		one := v.Slice(0, v.Cap()).Index(i)
		scribble(one)
		one.SetZero()
	}
}

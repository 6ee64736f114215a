package desk

import (
	"fmt"
	"math/bits"
	"reflect"
	"slices"
	"strings"
	"testing"

	"starling/api"
	"starling/engine"
)

// draw: numbers that are the same each time.
type draw uint64

func (d *draw) next() uint64 {
	*d = *d*6364136223846793005 + 1442695040888963407
	x := uint64(*d)
	return bits.RotateLeft64(x^x>>29, 23) * 0x9E3779B97F4A7C15
}

func (d *draw) below(n int) int { return int(d.next() >> 11 % uint64(n)) }

func (d *draw) one(l ...string) string { return l[d.below(len(l))] }

type values = []api.Value

var null api.Value

func whole(n int64) api.Value { return api.Value{Kind: api.Int, N: n} }
func text(s string) api.Value { return api.Value{Kind: api.Text, S: s} }
func blob(s string) api.Value { return api.Value{Kind: api.Blob, S: s} }
func long(n int) string       { return strings.Repeat("w", n) }

// modelShow writes each value by other code than that of chapter 3.
func modelShow(l [][]api.Value) string {
	out := ""
	for _, row := range l {
		for i, v := range row {
			if i > 0 {
				out += ", "
			}
			switch v.Kind {
			case 0:
				out += "NULL"
			case 1:
				out += fmt.Sprint(v.N)
			case 2:
				out += "'" + strings.ReplaceAll(v.S, "'", "''") + "'"
			case 3:
				out += fmt.Sprintf("x'%x'", v.S)
			}
		}
		out += "\n"
	}
	return out
}

// modelRun goes through a text byte by byte.
func modelRun(s api.Session, in string) (api.Session, string, api.Errno) {
	if err := engine.Check(s); err != api.OK {
		return api.Session{}, "", err
	}
	out, line, count := "", "", 1
	for _, b := range []byte(in + "\n") {
		if b != '\n' {
			line += string([]byte{b})
			continue
		}
		if count++; count > 25 {
			return api.Session{}, "", api.ErrMany
		}
		if strings.ReplaceAll(line, " ", "") != "" {
			next, rows, err := engine.Exec(s, line)
			if err == api.OK {
				s = next
				out += modelShow(rows) + "ok\n"
			} else {
				out += fmt.Sprintf("error %d\n", err)
			}
		}
		line = ""
	}
	return s, out, api.OK
}

// run holds Run against the model, and answers what it tells.
func run(t *testing.T, s api.Session, in string) (api.Session, string, api.Errno) {
	t.Helper()
	want, wantOut, wanted := modelRun(s, in)
	got, out, err := Run(s, in)
	if err != wanted || out != wantOut || !same(got, want) {
		t.Fatalf("Run(%q) = %v, %q, %d; want %v, %q, %d", in, got.DB, out, err, want.DB, wantOut, wanted)
	}
	if err == api.OK && engine.Check(got) != api.OK {
		t.Fatalf("%q: the session is wrong", in)
	}
	return got, out, err
}

// after answers a session behind commands, none of which may fail.
func after(t *testing.T, s api.Session, lines ...string) api.Session {
	t.Helper()
	for _, line := range lines {
		next, _, err := engine.Exec(s, line)
		if err != api.OK {
			t.Fatalf("%s: %d", line, err)
		}
		s = next
	}
	return s
}

// hurt answers a session of whose file some pages are damaged.
func hurt(t *testing.T, s api.Session, places ...int) api.Session {
	t.Helper()
	for _, no := range places {
		next, err := engine.Damage(s, no, "x")
		if err != api.OK {
			t.Fatalf("%d: %d", no, err)
		}
		s = next
	}
	return s
}

func birds(t *testing.T) api.Session {
	t.Helper()
	return after(t, engine.New(), "create table birds (id integer not null unique, name text)", "insert into birds values (1, 'wren'), (2, 'rook')", "create table nests (a)", "insert into nests values (x'00')")
}

// plain answers what is the same, in memory of its own, with each empty list nil.
func plain[T any](x T) T {
	tidy(reflect.ValueOf(&x).Elem())
	return x
}

func tidy(v reflect.Value) {
	switch v.Kind() {
	case reflect.Slice:
		if v.Len() == 0 {
			v.SetZero()
			return
		}
		v.Set(reflect.AppendSlice(reflect.Zero(v.Type()), v))
		for i := range v.Len() {
			tidy(v.Index(i))
		}
	case reflect.Struct:
		for i := range v.NumField() {
			tidy(v.Field(i))
		}
	}
}

func same[T any](a, b T) bool { return reflect.DeepEqual(plain(a), plain(b)) }

// memory tells where each list of a value lies, its spare room too.
func memory(v reflect.Value) [][2]uintptr {
	var out [][2]uintptr
	switch v.Kind() {
	case reflect.Slice:
		if v.Cap() > 0 {
			out = append(out, [2]uintptr{v.Pointer(), v.Pointer() + uintptr(v.Cap())*v.Type().Elem().Size()})
		}
		for i := range v.Len() {
			out = append(out, memory(v.Index(i))...)
		}
	case reflect.Struct:
		for i := range v.NumField() {
			out = append(out, memory(v.Field(i))...)
		}
	}
	return out
}

// shared tells whether two lists of an answer share memory, or one of them and one of what was handed in.
func shared(answer any, handed ...any) bool {
	own := memory(reflect.ValueOf(answer))
	all := slices.Clone(own)
	for _, x := range handed {
		all = append(all, memory(reflect.ValueOf(x))...)
	}
	for i, a := range own {
		for _, b := range all[i+1:] {
			if a[0] < b[1] && b[0] < a[1] {
				return true
			}
		}
	}
	return false
}

// roomy answers what is the same, with spare room behind each list, filled.
func roomy[T any](x T) T {
	widen(reflect.ValueOf(&x).Elem())
	return x
}

func widen(v reflect.Value) {
	switch v.Kind() {
	case reflect.Slice:
		n := v.Len()
		wide := reflect.MakeSlice(v.Type(), n+2, n+2)
		reflect.Copy(wide, v)
		for i := range n {
			widen(wide.Index(i))
			wide.Index(n).Set(wide.Index(i))
		}
		v.Set(wide.Slice(0, n))
	case reflect.Struct:
		for i := range v.NumField() {
			widen(v.Field(i))
		}
	}
}

// entire tells all that a value has, the spare room of its lists too.
func entire(v reflect.Value) []any {
	switch v.Kind() {
	case reflect.Slice:
		out := []any{v.Len()}
		for i := range v.Cap() {
			out = append(out, entire(v.Slice(0, v.Cap()).Index(i))...)
		}
		return out
	case reflect.Struct:
		var out []any
		for i := range v.NumField() {
			out = append(out, entire(v.Field(i))...)
		}
		return out
	}
	return []any{v.Interface()}
}

func entirely(x any) string { return fmt.Sprintf("%#v", entire(reflect.ValueOf(x))) }

// scribble writes all over what a value has, the spare room of its lists too.
func scribble(v reflect.Value) {
	switch v.Kind() {
	case reflect.Slice:
		for i := range v.Cap() {
			one := v.Slice(0, v.Cap()).Index(i)
			scribble(one)
			one.SetZero()
		}
	case reflect.Struct:
		for i := range v.NumField() {
			scribble(v.Field(i))
		}
	}
}

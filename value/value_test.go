package value

import (
	"math"
	"math/big"
	"math/bits"
	"regexp"
	"slices"
	"strings"
	"sync"
	"testing"

	"starling/api"
)

// draw gives numbers for long scripts, the same ones each time.
type draw uint64

func (d *draw) next() uint64 {
	*d = *d*6364136223846793005 + 1442695040888963407
	x := uint64(*d)
	return bits.RotateLeft64(x^x>>29, 23) * 0x9E3779B97F4A7C15
}

func (d *draw) below(n int) int { return int(d.next() >> 11 % uint64(n)) }

// text draws one of bytes that matter somewhere.
func (d *draw) text(most int) string {
	s := make([]byte, d.below(most+1))
	for i := range s {
		s[i] = "\x00\x01'0ax\x7f\x80\xff"[d.below(9)]
	}
	return string(s)
}

func (d *draw) value() api.Value {
	switch d.below(4) {
	case 0:
		return api.Value{}
	case 1:
		return whole(int64(d.next()) >> d.below(64))
	case 2:
		return text(d.text(api.MaxText))
	}
	return blob(d.text(api.MaxText))
}

func whole(n int64) api.Value { return api.Value{Kind: api.Int, N: n} }
func text(s string) api.Value { return api.Value{Kind: api.Text, S: s} }
func blob(s string) api.Value { return api.Value{Kind: api.Blob, S: s} }
func long(n int) string       { return strings.Repeat("w", n) }

// rising has right values in the order of the document.
func rising() []api.Value {
	vs := []api.Value{{}}
	for _, n := range []int64{math.MinInt64, math.MinInt64 + 1, -1 << 32, -10, -9, -1, 0, 1, 9, 10, 1 << 32, math.MaxInt64 - 1, math.MaxInt64} {
		vs = append(vs, whole(n))
	}
	texts := []string{
		"", "\x00", "\x00\x00", "\x00\x01", "\x00a", "\x01", "'", "''", "0", "A", "a", "a\x00", "a\x00b", "a\x01", "a'", "aa", "ab", "b",
		long(api.MaxText - 1), long(api.MaxText), "wx", "\x7f", "\x80", "\xff", "\xff\x00", strings.Repeat("\xff", api.MaxText),
	}
	for _, s := range texts {
		vs = append(vs, text(s))
	}
	for _, s := range texts {
		vs = append(vs, blob(s))
	}
	return vs
}

type fault struct {
	v   api.Value
	err api.Errno
}

func faults() []fault {
	tooLong := long(api.MaxText + 1)
	return []fault{
		{api.Value{Kind: -1}, api.ErrKind},
		{api.Value{Kind: 4}, api.ErrKind},
		{api.Value{Kind: 256}, api.ErrKind},
		{api.Value{Kind: math.MaxInt}, api.ErrKind},
		{api.Value{Kind: math.MinInt}, api.ErrKind},
		{api.Value{Kind: 4, N: 1, S: tooLong}, api.ErrKind},
		{api.Value{N: 1}, api.ErrForm},
		{api.Value{N: math.MinInt64}, api.ErrForm},
		{api.Value{S: "a"}, api.ErrForm},
		{api.Value{S: tooLong}, api.ErrForm},
		{api.Value{Kind: api.Int, S: "\x00"}, api.ErrForm},
		{api.Value{Kind: api.Int, N: 7, S: tooLong}, api.ErrForm},
		{api.Value{Kind: api.Text, N: 1}, api.ErrForm},
		{api.Value{Kind: api.Text, N: 1, S: tooLong}, api.ErrForm},
		{api.Value{Kind: api.Blob, N: -1, S: "a"}, api.ErrForm},
		{api.Value{Kind: api.Blob, N: -1, S: tooLong}, api.ErrForm},
		{text(tooLong), api.ErrMany},
		{blob(tooLong), api.ErrMany},
		{text(long(1 << 20)), api.ErrMany},
	}
}

func TestCheckTells(t *testing.T) { // C1
	for _, v := range rising() {
		if err := Check(v); err != api.OK {
			t.Errorf("Check(%v) is %d, must be 0", v, err)
		}
	}
	for _, f := range faults() {
		if err := Check(f.v); err != f.err {
			t.Errorf("Check(%v) is %d, must be %d", f.v, err, f.err)
		}
	}
}

func TestCompareTells(t *testing.T) { // C1, C4
	vs := rising()
	for i, a := range vs {
		for k, b := range vs {
			want := 0
			if i < k {
				want = -1
			} else if i > k {
				want = 1
			}
			if got, err := Compare(a, b); got != want || err != api.OK {
				t.Errorf("Compare(%v, %v) is %d %d, must be %d 0", a, b, got, err, want)
			}
		}
	}
}

// lessModel holds bytes against each other one by one, as the words of the document say it.
func lessModel(a, b api.Value) bool {
	if a.Kind != b.Kind {
		return a.Kind < b.Kind
	}
	if a.N != b.N {
		return a.N < b.N
	}
	for i := range len(a.S) {
		if i == len(b.S) {
			return false
		}
		if a.S[i] != b.S[i] {
			return a.S[i] < b.S[i]
		}
	}
	return len(a.S) < len(b.S)
}

func TestTheOrderIsOne(t *testing.T) { // C1, C4
	d := draw(1)
	for range 50000 {
		a, b := d.value(), d.value()
		got, err := Compare(a, b)
		want := 0
		if lessModel(a, b) {
			want = -1
		} else if lessModel(b, a) {
			want = 1
		}
		if got != want || err != api.OK {
			t.Fatalf("Compare(%v, %v) is %d %d, must be %d 0", a, b, got, err, want)
		}
		if (got == 0) != (a == b) {
			t.Fatalf("Compare(%v, %v) is %d", a, b, got)
		}
	}
}

func TestCompareOfWrongValues(t *testing.T) { // C1, P1: first a, then b
	for _, f := range faults() {
		for _, v := range rising() {
			if got, err := Compare(f.v, v); got != 0 || err != f.err {
				t.Errorf("Compare(%v, %v) is %d %d, must be 0 %d", f.v, v, got, err, f.err)
			}
			if got, err := Compare(v, f.v); got != 0 || err != f.err {
				t.Errorf("Compare(%v, %v) is %d %d, must be 0 %d", v, f.v, got, err, f.err)
			}
		}
		for _, g := range faults() {
			if got, err := Compare(f.v, g.v); got != 0 || err != f.err {
				t.Errorf("Compare(%v, %v) is %d %d, must be 0 %d", f.v, g.v, got, err, f.err)
			}
		}
	}
}

type literal struct {
	v api.Value
	s string
}

func literals() []literal {
	return []literal{
		{api.Value{}, "NULL"},
		{whole(0), "0"},
		{whole(7), "7"},
		{whole(-7), "-7"},
		{whole(10), "10"},
		{whole(-100), "-100"},
		{whole(math.MaxInt64), "9223372036854775807"},
		{whole(math.MinInt64), "-9223372036854775808"},
		{text(""), "''"},
		{text("wren"), "'wren'"},
		{text("NULL"), "'NULL'"},
		{text("'"), "''''"},
		{text("''"), "''''''"},
		{text("it's"), "'it''s'"},
		{text("'a'"), "'''a'''"},
		{text("\x00\n\"\\\xff"), "'\x00\n\"\\\xff'"},
		{text(long(16)), "'" + long(16) + "'"},
		{text(strings.Repeat("'", 16)), strings.Repeat("'", 34)},
		{blob(""), "x''"},
		{blob("\x00"), "x'00'"},
		{blob("'"), "x'27'"},
		{blob("\x01\x23\x45\x67\x89\xab\xcd\xef"), "x'0123456789abcdef'"},
		{blob(strings.Repeat("\xff", 16)), "x'" + strings.Repeat("ff", 16) + "'"},
	}
}

func TestShowTells(t *testing.T) { // C2
	for _, l := range literals() {
		if got, err := Show(l.v); got != l.s || err != api.OK {
			t.Errorf("Show(%v) is %q %d, must be %q 0", l.v, got, err, l.s)
		}
	}
	for _, f := range faults() {
		if got, err := Show(f.v); got != "" || err != f.err {
			t.Errorf("Show(%v) is %q %d, must be nothing and %d", f.v, got, err, f.err)
		}
	}
}

func TestOfTells(t *testing.T) { // C2
	for _, l := range literals() {
		if got, err := Of(l.s); got != l.v || err != api.OK {
			t.Errorf("Of(%q) is %v %d, must be %v 0", l.s, got, err, l.v)
		}
	}
}

func TestOfWrongLiterals(t *testing.T) { // C2, P1
	manyDigits := strings.Repeat("9", 1<<16)
	for _, c := range []struct {
		s   string
		err api.Errno
	}{
		{"", api.ErrForm},
		{" ", api.ErrForm},
		{"null", api.ErrForm},
		{"Null", api.ErrForm},
		{"NULL ", api.ErrForm},
		{" NULL", api.ErrForm},
		{"NUL", api.ErrForm},
		{"NULL\x00", api.ErrForm},
		{"-", api.ErrForm},
		{"-0", api.ErrForm},
		{"00", api.ErrForm},
		{"01", api.ErrForm},
		{"-01", api.ErrForm},
		{"+1", api.ErrForm},
		{"--1", api.ErrForm},
		{"1 ", api.ErrForm},
		{" 1", api.ErrForm},
		{"1_0", api.ErrForm},
		{"0x1", api.ErrForm},
		{"1e1", api.ErrForm},
		{"1.0", api.ErrForm},
		{"1-", api.ErrForm},
		{"1/", api.ErrForm},
		{"1:", api.ErrForm},
		{"\xd9\xa1", api.ErrForm}, // a digit, but none of ours
		{manyDigits + "x", api.ErrForm},
		{"0" + manyDigits, api.ErrForm},
		{"9223372036854775808", api.ErrOver},
		{"-9223372036854775809", api.ErrOver},
		{"10000000000000000000", api.ErrOver},
		{"18446744073709551616", api.ErrOver},
		{"18446744073709551617", api.ErrOver},
		{"-18446744073709551617", api.ErrOver},
		{manyDigits, api.ErrOver},
		{"-" + manyDigits, api.ErrOver},
		{"'", api.ErrForm},
		{"'''", api.ErrForm},
		{"'''''", api.ErrForm},
		{"'a", api.ErrForm},
		{"a'", api.ErrForm},
		{"'a'b'", api.ErrForm},
		{"'a''", api.ErrForm},
		{"''a'", api.ErrForm},
		{"'a' ", api.ErrForm},
		{" 'a'", api.ErrForm},
		{"'a''b", api.ErrForm},
		{"\"a\"", api.ErrForm},
		{"'" + long(17), api.ErrForm},
		{"'" + long(17) + "'a'", api.ErrForm},
		{"'" + long(17) + "'", api.ErrMany},
		{"'" + long(16) + "'''", api.ErrMany},
		{strings.Repeat("'", 36), api.ErrMany},
		{"'" + long(1<<16) + "'", api.ErrMany},
		{"x", api.ErrForm},
		{"x'", api.ErrForm},
		{"x'''", api.ErrForm},
		{"x'0'", api.ErrForm},
		{"x'000'", api.ErrForm},
		{"x'0g'", api.ErrForm},
		{"x'g0'", api.ErrForm},
		{"x'0F'", api.ErrForm},
		{"x'F0'", api.ErrForm},
		{"X'00'", api.ErrForm},
		{"xx'00'", api.ErrForm},
		{"x 'a'", api.ErrForm},
		{"x'00", api.ErrForm},
		{"x00'", api.ErrForm},
		{"x'00''00'", api.ErrForm},
		{"x'" + strings.Repeat("0", 33) + "'", api.ErrForm},
		{"x'" + strings.Repeat("0", 34) + "g'", api.ErrForm},
		{"x'" + strings.Repeat("0", 34) + "'", api.ErrMany},
		{"x'" + strings.Repeat("0", 1<<16) + "'", api.ErrMany},
	} {
		if v, err := Of(c.s); v != (api.Value{}) || err != c.err {
			t.Errorf("Of(%.50q) is %v %d, must be nothing and %d", c.s, v, err, c.err)
		}
	}
}

var literalForm = regexp.MustCompile(`(?s)^(NULL|0|-?[1-9][0-9]*|'([^']|'')*'|x'([0-9a-f]{2})*')$`)

// ofModel tells the error of a literal as the words of the document say it.
func ofModel(s string) api.Errno {
	switch {
	case !literalForm.MatchString(s):
		return api.ErrForm
	case s[0] == 'x' && len(s) > 3+2*api.MaxText:
		return api.ErrMany
	case s[0] == '\'' && len(strings.ReplaceAll(s[1:len(s)-1], "''", "'")) > api.MaxText:
		return api.ErrMany
	case s[0] != 'x' && s[0] != '\'' && s[0] != 'N':
		n, _ := new(big.Int).SetString(s, 10)
		if !n.IsInt64() {
			return api.ErrOver
		}
	}
	return api.OK
}

func checkOf(t *testing.T, s string) {
	t.Helper()
	v, err := Of(s)
	if want := ofModel(s); err != want {
		t.Fatalf("Of(%q) is %v %d, must be %d", s, v, err, want)
	}
	if err != api.OK {
		if v != (api.Value{}) {
			t.Fatalf("Of(%q) is %v with error %d", s, v, err)
		}
		return
	}
	if back, err := Show(v); back != s || err != api.OK {
		t.Fatalf("%q is read as %v, which is shown as %q %d", s, v, back, err)
	}
}

func TestWhatIsReadIsShownAsItStood(t *testing.T) { // C2, C4
	const signs = "'x0a-1N"
	short := []string{""}
	for from := 0; len(short[from]) < 6; from++ {
		for i := range len(signs) {
			short = append(short, short[from]+signs[i:i+1])
		}
	}
	for _, s := range short {
		checkOf(t, s)
	}
	d := draw(2)
	for range 60000 {
		s := show(t, d.value())
		at, b := d.below(len(s)), "\x00\n'0189:/aAfgxX- N"[d.below(17)]
		checkOf(t, s)
		checkOf(t, s[:at])
		checkOf(t, s[at:])
		if plain(s) {
			checkOf(t, s[:at]+string(b)+s[at:])
			checkOf(t, s[:at]+string(b)+s[at+1:])
		}
	}
}

// plain texts only: the model's form is one of signs, not of bytes.
func plain(s string) bool {
	return !strings.ContainsFunc(s, func(r rune) bool { return r > 127 })
}

func show(t *testing.T, v api.Value) string {
	t.Helper()
	s, err := Show(v)
	if err != api.OK {
		t.Fatalf("Show(%v) is %d", v, err)
	}
	return s
}

func TestWhatIsShownIsReadAsItWas(t *testing.T) { // C4
	d := draw(3)
	vs := rising()
	for range 20000 {
		vs = append(vs, d.value())
	}
	for b := range 256 {
		one := string([]byte{byte(b)})
		vs = append(vs, text(one), blob(one), text(one+one), blob("a"+one), text(strings.Repeat(one, 16)))
	}
	for _, v := range vs {
		s := show(t, v)
		if got, err := Of(s); got != v || err != api.OK {
			t.Fatalf("%v is shown as %q, which is read as %v %d", v, s, got, err)
		}
	}
}

func TestSortTells(t *testing.T) { // C3
	d := draw(4)
	all := rising()
	for n := range api.MaxList + 1 {
		for range 20 {
			l := make([]api.Value, n)
			for i := range l {
				l[i] = all[d.below(len(all))]
			}
			want := slices.Clone(l)
			slices.SortFunc(want, func(a, b api.Value) int {
				return slices.Index(all, a) - slices.Index(all, b)
			})
			if got, err := Sort(l); !slices.Equal(got, want) || err != api.OK {
				t.Fatalf("Sort(%v) is %v %d, must be %v 0", l, got, err, want)
			}
		}
	}
}

func TestSortOfNothing(t *testing.T) { // C3, P2
	for _, l := range [][]api.Value{nil, {}} {
		if got, err := Sort(l); len(got) != 0 || err != api.OK {
			t.Errorf("Sort of nothing is %v %d", got, err)
		}
	}
}

func TestSortOfWrongLists(t *testing.T) { // C3, P1
	for _, f := range faults() {
		for at := range api.MaxList {
			l := make([]api.Value, api.MaxList)
			l[at] = f.v
			if got, err := Sort(l); got != nil || err != f.err {
				t.Errorf("Sort with %v at %d is %v %d, must be nothing and %d", f.v, at, got, err, f.err)
			}
		}
		l := make([]api.Value, api.MaxList+1)
		l[0] = f.v
		if got, err := Sort(l); got != nil || err != api.ErrMany {
			t.Errorf("Sort of too many is %v %d, must be nothing and 2", got, err)
		}
	}
	if got, err := Sort(make([]api.Value, 1<<16)); got != nil || err != api.ErrMany {
		t.Errorf("Sort of too many is %v %d, must be nothing and 2", got, err)
	}
	if got, err := Sort(make([]api.Value, api.MaxList)); len(got) != api.MaxList || err != api.OK {
		t.Errorf("Sort of as many as may be is %v %d", got, err)
	}
}

func TestWrongValuesAreToldInOrder(t *testing.T) { // C3
	for _, f := range faults() {
		for _, g := range faults() {
			if got, err := Sort([]api.Value{{}, f.v, g.v}); got != nil || err != f.err {
				t.Errorf("Sort of %v and %v is %v %d, must be nothing and %d", f.v, g.v, got, err, f.err)
			}
		}
	}
}

func TestListsAreOnlyRead(t *testing.T) { // P2
	room := []api.Value{text("b"), whole(2), {}, whole(1), text("spare"), whole(9)}
	kept := slices.Clone(room)
	got, err := Sort(room[:4])
	want := []api.Value{{}, whole(1), whole(2), text("b")}
	if !slices.Equal(got, want) || err != api.OK {
		t.Fatalf("Sort is %v %d", got, err)
	}
	got = append(got, whole(5))
	for i := range got {
		got[i] = text("changed")
	}
	if !slices.Equal(room, kept) {
		t.Errorf("the list has become %v, and was %v", room, kept)
	}
	sorted := []api.Value{{}, whole(1)}
	got, _ = Sort(sorted)
	sorted[0] = text("changed")
	if got[0] != (api.Value{}) {
		t.Errorf("a change of a list is seen in what was answered: %v", got)
	}
}

func TestNothingIsRemembered(t *testing.T) { // P3
	vs := rising()
	var hands sync.WaitGroup
	for hand := range 4 {
		hands.Go(func() {
			for i := range vs {
				if hand%2 == 1 {
					i = len(vs) - 1 - i
				}
				Of("'")
				Show(api.Value{Kind: 9})
				s, err := Show(vs[i])
				if v, again := Of(s); v != vs[i] || err != api.OK || again != api.OK {
					t.Errorf("%v is shown as %q %d, and read as %v %d", vs[i], s, err, v, again)
				}
				backward := slices.Clone(vs[:min(i+1, api.MaxList)])
				slices.Reverse(backward)
				if got, err := Sort(backward); !slices.Equal(got, vs[:len(backward)]) || err != api.OK {
					t.Errorf("Sort(%v) is %v %d", backward, got, err)
				}
			}
		})
	}
	hands.Wait()
}

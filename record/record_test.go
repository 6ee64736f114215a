package record

import (
	"math"
	"math/bits"
	"slices"
	"strings"
	"sync"
	"testing"

	"starling/api"
	"starling/num"
)

// draw gives numbers for long scripts, the same ones each time.
type draw uint64

func (d *draw) next() uint64 {
	*d = *d*6364136223846793005 + 1442695040888963407
	x := uint64(*d)
	return bits.RotateLeft64(x^x>>29, 23) * 0x9E3779B97F4A7C15
}

func (d *draw) below(n int) int { return int(d.next() >> 11 % uint64(n)) }

// text draws one of bytes that matter somewhere.
func (d *draw) text(most int) string {
	s := make([]byte, d.below(most+1))
	for i := range s {
		s[i] = "\x00\x01\x02a\x05\x10\x20\x80\xff"[d.below(9)]
	}
	return string(s)
}

func (d *draw) value() api.Value {
	switch d.below(4) {
	case 0:
		return api.Value{}
	case 1:
		return whole(int64(d.next()) >> d.below(64))
	case 2:
		return text(d.text(3 + d.below(14)))
	}
	return blob(d.text(3 + d.below(14)))
}

func (d *draw) row() []api.Value {
	row := make([]api.Value, d.below(api.MaxRow+1))
	for i := range row {
		row[i] = d.value()
	}
	return row
}

func whole(n int64) api.Value { return api.Value{Kind: api.Int, N: n} }
func text(s string) api.Value { return api.Value{Kind: api.Text, S: s} }
func blob(s string) api.Value { return api.Value{Kind: api.Blob, S: s} }
func long(n int) string       { return strings.Repeat("w", n) }

// rising has rows in the order of the document.
func rising() [][]api.Value {
	null := api.Value{}
	return [][]api.Value{
		{},
		{null},
		{null, null},
		{null, null, null, null, null, null, null, null},
		{null, whole(math.MinInt64)},
		{null, blob("\xff")},
		{whole(math.MinInt64)},
		{whole(math.MinInt64), null},
		{whole(math.MinInt64 + 1)},
		{whole(-256)},
		{whole(-255)},
		{whole(-1)},
		{whole(-1), text("")},
		{whole(0)},
		{whole(1), whole(2)},
		{whole(1), whole(3), null},
		{whole(127)},
		{whole(128)},
		{whole(255)},
		{whole(256)},
		{whole(math.MaxInt64)},
		{text("")},
		{text(""), null},
		{text(""), text("")},
		{text(""), blob(long(api.MaxText))},
		{text("\x00")},
		{text("\x00"), whole(0)},
		{text("\x00\x00")},
		{text("\x00\x01")},
		{text("\x00\xff")},
		{text("\x01")},
		{text("\x01\x00")},
		{text("a")},
		{text("a"), whole(1)},
		{text("a"), text("")},
		{text("a"), blob("\x00")},
		{text("a\x00")},
		{text("a\x00\x01")},
		{text("a\x01")},
		{text("a\xff")},
		{text("b")},
		{text(long(api.MaxText - 1))},
		{text(long(api.MaxText))},
		{text(strings.Repeat("\xff", api.MaxText))},
		{blob("")},
		{blob(""), null},
		{blob("\x00")},
		{blob(strings.Repeat("\x00", api.MaxText))},
		{blob("\x00\x01")},
		{blob("\x00\xff")},
		{blob("a")},
		{blob("\xff")},
	}
}

type fault struct {
	row []api.Value
	err api.Errno
}

func faults() []fault {
	null, none := api.Value{}, api.Value{Kind: 4}
	tooLong := text(long(api.MaxText + 1))
	many := make([]api.Value, api.MaxRow+1)
	manyAndWrong := make([]api.Value, api.MaxRow+1)
	manyAndWrong[0] = none
	last := make([]api.Value, api.MaxRow)
	last[api.MaxRow-1] = api.Value{N: 1}
	return []fault{
		{many, api.ErrMany},
		{manyAndWrong, api.ErrMany},
		{make([]api.Value, 1<<16), api.ErrMany},
		{[]api.Value{none}, api.ErrKind},
		{[]api.Value{{Kind: -1}}, api.ErrKind},
		{[]api.Value{{Kind: 256 + api.Int}}, api.ErrKind},
		{[]api.Value{{N: 1}}, api.ErrForm},
		{[]api.Value{{Kind: api.Int, S: "a"}}, api.ErrForm},
		{[]api.Value{{Kind: api.Blob, N: 1, S: long(17)}}, api.ErrForm},
		{[]api.Value{tooLong}, api.ErrMany},
		{[]api.Value{null, none}, api.ErrKind},
		{last, api.ErrForm},
		{[]api.Value{none, tooLong}, api.ErrKind},
		{[]api.Value{tooLong, none}, api.ErrMany},
		{[]api.Value{null, {N: 1}, none}, api.ErrForm},
	}
}

func TestWriteTells(t *testing.T) { // D1
	for _, c := range []struct {
		row  []api.Value
		want string
	}{
		{nil, "\x00"},
		{[]api.Value{}, "\x00"},
		{[]api.Value{{}}, "\x01\x00"},
		{[]api.Value{whole(0)}, "\x01\x01\x00"},
		{[]api.Value{whole(-1)}, "\x01\x01\x01"},
		{[]api.Value{whole(150)}, "\x01\x01\xac\x02"},
		{[]api.Value{whole(math.MinInt64)}, "\x01\x01\xff\xff\xff\xff\xff\xff\xff\xff\xff\x01"},
		{[]api.Value{whole(math.MaxInt64)}, "\x01\x01\xfe\xff\xff\xff\xff\xff\xff\xff\xff\x01"},
		{[]api.Value{text("")}, "\x01\x02\x00"},
		{[]api.Value{text("a\x00b")}, "\x01\x02\x03a\x00b"},
		{[]api.Value{blob("")}, "\x01\x03\x00"},
		{[]api.Value{blob("\xff")}, "\x01\x03\x01\xff"},
		{[]api.Value{text(long(16))}, "\x01\x02\x10" + long(16)},
		{[]api.Value{whole(1), text("wren"), {}, blob("\x00")}, "\x04\x01\x02\x02\x04wren\x00\x03\x01\x00"},
		{make([]api.Value, 8), "\x08\x00\x00\x00\x00\x00\x00\x00\x00"},
	} {
		if got, err := Write(c.row); got != c.want || err != api.OK {
			t.Errorf("Write(%v) is %x %d, must be %x 0", c.row, got, err, c.want)
		}
	}
}

func TestReadTells(t *testing.T) { // D1, P1: with an error the rest is zero
	for _, c := range []struct {
		s    string
		row  []api.Value
		size int
		err  api.Errno
	}{
		{"\x00", nil, 1, api.OK},
		{"\x00\x00", nil, 1, api.OK},
		{"\x01\x01\x02\xff", []api.Value{whole(1)}, 3, api.OK},
		{"\x02\x03\x01a\x00\x00", []api.Value{blob("a"), {}}, 5, api.OK},
		{"", nil, 0, api.ErrNone},
		{"\x80", nil, 0, api.ErrNone},
		{"\x80\x00", nil, 0, api.ErrForm},
		{"\x88\x00", nil, 0, api.ErrForm},
		{strings.Repeat("\xff", 10), nil, 0, api.ErrMany},
		{"\x09", nil, 0, api.ErrMany},
		{"\x09\x04", nil, 0, api.ErrMany},
		{"\x80\x01", nil, 0, api.ErrMany},
		{strings.Repeat("\xff", 9) + "\x01", nil, 0, api.ErrMany},
		{strings.Repeat("\x80", 9) + "\x01", nil, 0, api.ErrMany},
		{"\x08", nil, 0, api.ErrNone},
		{"\x08\x00\x00\x00\x00\x00\x00\x00", nil, 0, api.ErrNone},
		{"\x08\x00\x00\x00\x00\x00\x00\x00\x04", nil, 0, api.ErrKind},
		{"\x01\x04", nil, 0, api.ErrKind},
		{"\x01\xff", nil, 0, api.ErrKind},
		{"\x02\x04\x01", nil, 0, api.ErrKind},
		{"\x01\x01", nil, 0, api.ErrNone},
		{"\x01\x01\x80", nil, 0, api.ErrNone},
		{"\x01\x01\x80\x00", nil, 0, api.ErrForm},
		{"\x01\x01" + strings.Repeat("\xff", 9) + "\x02", nil, 0, api.ErrMany},
		{"\x01\x02", nil, 0, api.ErrNone},
		{"\x01\x02\x80", nil, 0, api.ErrNone},
		{"\x01\x02\x81\x00", nil, 0, api.ErrForm},
		{"\x01\x02" + strings.Repeat("\xff", 9) + "\x02", nil, 0, api.ErrMany},
		{"\x01\x02" + strings.Repeat("\xff", 9) + "\x01", nil, 0, api.ErrMany},
		{"\x01\x02\x11", nil, 0, api.ErrMany},
		{"\x01\x02\x11" + long(17), nil, 0, api.ErrMany},
		{"\x01\x02\x10" + long(15), nil, 0, api.ErrNone},
		{"\x01\x02\x10" + long(16), []api.Value{text(long(16))}, 19, api.OK},
		{"\x01\x03\x01", nil, 0, api.ErrNone},
		{"\x02\x03\x05abcd\x04", []api.Value(nil), 0, api.ErrNone},
		{"\x02\x01\x02", nil, 0, api.ErrNone},
	} {
		row, size, err := Read(c.s)
		if !slices.Equal(row, c.row) || size != c.size || err != c.err {
			t.Errorf("Read(%x) is %v %d %d, must be %v %d %d", c.s, row, size, err, c.row, c.size, c.err)
		}
		if err != api.OK && row != nil {
			t.Errorf("Read(%x) is %v with error %d", c.s, row, err)
		}
	}
}

func TestWrongRows(t *testing.T) { // D1, D2, D3, P1
	for _, f := range faults() {
		if s, err := Write(f.row); s != "" || err != f.err {
			t.Errorf("Write(%.9v) is %x %d, must be nothing and %d", f.row, s, err, f.err)
		}
		if s, err := Key(f.row); s != "" || err != f.err {
			t.Errorf("Key(%.9v) is %x %d, must be nothing and %d", f.row, s, err, f.err)
		}
		for _, row := range rising() {
			if n, err := Compare(f.row, row); n != 0 || err != f.err {
				t.Errorf("Compare(%.9v, %v) is %d %d, must be 0 %d", f.row, row, n, err, f.err)
			}
			if n, err := Compare(row, f.row); n != 0 || err != f.err {
				t.Errorf("Compare(%v, %.9v) is %d %d, must be 0 %d", row, f.row, n, err, f.err)
			}
		}
		for _, g := range faults() {
			if n, err := Compare(f.row, g.row); n != 0 || err != f.err {
				t.Errorf("Compare(%.9v, %.9v) is %d %d, must be 0 %d", f.row, g.row, n, err, f.err)
			}
		}
	}
}

func TestCompareTells(t *testing.T) { // D2
	rows := rising()
	for i, a := range rows {
		for k, b := range rows {
			want := 0
			if i < k {
				want = -1
			} else if i > k {
				want = 1
			}
			if got, err := Compare(a, b); got != want || err != api.OK {
				t.Errorf("Compare(%v, %v) is %d %d, must be %d 0", a, b, got, err, want)
			}
		}
	}
}

func TestKeyTells(t *testing.T) { // D3
	for _, c := range []struct {
		row  []api.Value
		want string
	}{
		{nil, ""},
		{[]api.Value{{}}, "\x05"},
		{[]api.Value{whole(0)}, "\x10\x80\x00\x00\x00\x00\x00\x00\x00"},
		{[]api.Value{whole(1)}, "\x10\x80\x00\x00\x00\x00\x00\x00\x01"},
		{[]api.Value{whole(-1)}, "\x10\x7f\xff\xff\xff\xff\xff\xff\xff"},
		{[]api.Value{whole(0x0102030405060708)}, "\x10\x81\x02\x03\x04\x05\x06\x07\x08"},
		{[]api.Value{whole(math.MinInt64)}, "\x10\x00\x00\x00\x00\x00\x00\x00\x00"},
		{[]api.Value{whole(math.MaxInt64)}, "\x10\xff\xff\xff\xff\xff\xff\xff\xff"},
		{[]api.Value{text("")}, "\x20\x00\x01"},
		{[]api.Value{text("\x00")}, "\x20\x00\xff\x00\x01"},
		{[]api.Value{text("a\x00\x00b")}, "\x20a\x00\xff\x00\xffb\x00\x01"},
		{[]api.Value{text("\x01\xff")}, "\x20\x01\xff\x00\x01"},
		{[]api.Value{blob("")}, "\x30\x00\x01"},
		{[]api.Value{blob("\x00\xff")}, "\x30\x00\xff\xff\x00\x01"},
		{[]api.Value{{}, text("wren"), {}, blob("x")}, "\x05\x20wren\x00\x01\x05\x30x\x00\x01"},
		{[]api.Value{text(strings.Repeat("\x00", 16))}, "\x20" + strings.Repeat("\x00\xff", 16) + "\x00\x01"},
		{make([]api.Value, 8), "\x05\x05\x05\x05\x05\x05\x05\x05"},
	} {
		if got, err := Key(c.row); got != c.want || err != api.OK {
			t.Errorf("Key(%v) is %x %d, must be %x 0", c.row, got, err, c.want)
		}
		if row, err := Unkey(c.want); !slices.Equal(row, c.row) || err != api.OK {
			t.Errorf("Unkey(%x) is %v %d, must be %v 0", c.want, row, err, c.row)
		}
	}
}

func TestUnkeyOfWrongKeys(t *testing.T) { // D3, P1
	eight := strings.Repeat("\x05", api.MaxRow)
	for _, c := range []struct {
		s   string
		err api.Errno
	}{
		{"\x00", api.ErrForm},
		{"\x04", api.ErrForm},
		{"\x06", api.ErrForm},
		{"\x0f", api.ErrForm},
		{"\xff", api.ErrForm},
		{"\x05\x01", api.ErrForm},
		{"\x10", api.ErrForm},
		{"\x10\x80\x00\x00\x00\x00\x00\x00", api.ErrForm},
		{"\x20", api.ErrForm},
		{"\x20a", api.ErrForm},
		{"\x20\x00", api.ErrForm},
		{"\x20\x00\x00", api.ErrForm},
		{"\x20\x00\x02", api.ErrForm},
		{"\x20\x00\xfe\x00\x01", api.ErrForm},
		{"\x20\x00\xff", api.ErrForm},
		{"\x20\x00\xff\x00", api.ErrForm},
		{"\x30a\x00a\x00\x01", api.ErrForm},
		{"\x20\x00\x01\x00\x01", api.ErrForm},
		{"\x20" + long(17), api.ErrForm},
		{"\x20" + long(17) + "\x00", api.ErrForm},
		{"\x20" + long(17) + "\x00\x02", api.ErrForm},
		{"\x20" + long(17) + "\x00\x01", api.ErrMany},
		{"\x30" + strings.Repeat("\x00\xff", 17) + "\x00\x01", api.ErrMany},
		{"\x20" + long(17) + "\x00\x01\x06", api.ErrMany},
		{"\x06\x20" + long(17) + "\x00\x01", api.ErrForm},
		{"\x20" + long(1<<16) + "\x00\x01", api.ErrMany},
		{eight + "\x05", api.ErrMany},
		{eight + "\x06", api.ErrMany},
		{eight + "\x20", api.ErrMany},
		{eight[1:] + "\x06\x05", api.ErrForm},
		{strings.Repeat("\x05", 1<<16), api.ErrMany},
	} {
		if row, err := Unkey(c.s); row != nil || err != c.err {
			t.Errorf("Unkey(%.40x) is %v %d, must be nothing and %d", c.s, row, err, c.err)
		}
	}
}

func TestKeysStandInTheOrderOfRows(t *testing.T) { // D4
	check := func(a, b []api.Value) {
		t.Helper()
		k, _ := Key(a)
		m, _ := Key(b)
		order, err := Compare(a, b)
		if got := strings.Compare(k, m); got != order || err != api.OK {
			t.Fatalf("keys of %v and %v stand %d, the rows %d %d", a, b, got, order, err)
		}
	}
	rows := rising()
	d := draw(1)
	for range 600 {
		rows = append(rows, d.row())
	}
	for _, a := range rows {
		for _, b := range rows {
			check(a, b)
		}
		for cut := range a {
			check(a, a[:cut])
			check(a, append(slices.Clone(a[:cut]), d.value()))
		}
	}
}

func TestWhatIsWrittenIsRead(t *testing.T) { // D1, D3
	rows := rising()
	d := draw(2)
	for range 5000 {
		rows = append(rows, d.row())
	}
	for _, want := range rows {
		s, err := Write(want)
		for _, behind := range []string{"", "\x00", "\x01", "\x80", "\xff", s} {
			row, size, again := Read(s + behind)
			if !slices.Equal(row, want) || size != len(s) || err != api.OK || again != api.OK {
				t.Fatalf("%v is written %x %d, and read as %v %d %d", want, s, err, row, size, again)
			}
		}
		for cut := range len(s) {
			if row, size, err := Read(s[:cut]); row != nil || size != 0 || err != api.ErrNone {
				t.Fatalf("Read(%x) is %v %d %d, must be nothing and 5", s[:cut], row, size, err)
			}
		}
		k, err := Key(want)
		if row, again := Unkey(k); !slices.Equal(row, want) || err != api.OK || again != api.OK {
			t.Fatalf("the key of %v is %x %d, and read as %v %d", want, k, err, row, again)
		}
	}
}

// readModel reads as the words of the document say it, by the places in the text.
func readModel(s string) ([]api.Value, int, api.Errno) {
	at := 0
	number := func() (uint64, api.Errno) {
		n, size, err := num.Read(s[at:])
		at += size
		return n, err
	}
	many, err := number()
	if err != api.OK {
		return nil, 0, err
	}
	if many > 8 {
		return nil, 0, api.ErrMany
	}
	var row []api.Value
	for range many {
		if at == len(s) {
			return nil, 0, api.ErrNone
		}
		v := api.Value{Kind: int(s[at])}
		at++
		if v.Kind > 3 {
			return nil, 0, api.ErrKind
		}
		if v.Kind != 0 {
			n, err := number()
			if err != api.OK {
				return nil, 0, err
			}
			if v.Kind == 1 {
				v.N = int64(n>>1) ^ -int64(n&1)
			} else {
				if n > 16 {
					return nil, 0, api.ErrMany
				}
				if n > uint64(len(s)-at) {
					return nil, 0, api.ErrNone
				}
				v.S = s[at : at+int(n)]
				at += int(n)
			}
		}
		row = append(row, v)
	}
	return row, at, api.OK
}

func checkRead(t *testing.T, s string) {
	t.Helper()
	row, size, err := Read(s)
	want, wantSize, wantErr := readModel(s)
	if !slices.Equal(row, want) || size != wantSize || err != wantErr {
		t.Fatalf("Read(%x) is %v %d %d, must be %v %d %d", s, row, size, err, want, wantSize, wantErr)
	}
	if err != api.OK {
		return
	}
	if back, err := Write(row); back != s[:size] || err != api.OK {
		t.Fatalf("%x is read as %v, which is written %x %d", s[:size], row, back, err)
	}
}

// checkUnkey holds that what is read as a key is the key of what it is read as.
func checkUnkey(t *testing.T, s string) {
	t.Helper()
	row, err := Unkey(s)
	if err != api.OK {
		if row != nil || err != api.ErrForm && err != api.ErrMany {
			t.Fatalf("Unkey(%x) is %v %d", s, row, err)
		}
		return
	}
	if back, err := Key(row); back != s || err != api.OK {
		t.Fatalf("%x is read as %v, whose key is %x %d", s, row, back, err)
	}
}

func TestWhatIsReadIsWrittenAsItStood(t *testing.T) { // D1, D3
	const signs = "\x00\x01\x02\x03\x04\x05\x10\x20\x80\xff"
	short := []string{""}
	for from := 0; len(short[from]) < 5; from++ {
		for i := range len(signs) {
			short = append(short, short[from]+signs[i:i+1])
		}
	}
	for _, s := range short {
		checkRead(t, s)
		checkUnkey(t, s)
	}
	d := draw(3)
	for range 20000 {
		row := d.row()
		s, _ := Write(row)
		k, _ := Key(row)
		at, b := d.below(len(s)), signs[d.below(len(signs))]
		checkRead(t, s[:at]+string([]byte{b})+s[at+1:])
		checkRead(t, s[:at]+string([]byte{b})+s[at:])
		checkRead(t, s[:at]+s[at+1:])
		at = d.below(len(k) + 1)
		checkUnkey(t, k[:at]+string([]byte{b})+k[at:])
		checkUnkey(t, k[:at])
		checkUnkey(t, k[at:])
	}
}

func TestRowsAreOnlyRead(t *testing.T) { // P2
	room := []api.Value{text("b"), whole(2), {}, text("spare")}
	kept := slices.Clone(room)
	Write(room[:3])
	Key(room[:3])
	Compare(room[:3], room[:2])
	if !slices.Equal(room, kept) {
		t.Errorf("the row has become %v, and was %v", room, kept)
	}
	s, _ := Write(room)
	k, _ := Key(room)
	first, _, _ := Read(s)
	unkeyed, _ := Unkey(k)
	first[0], unkeyed[0] = whole(1), whole(2)
	again, _, _ := Read(s)
	unkeyedAgain, _ := Unkey(k)
	if !slices.Equal(again, kept) || !slices.Equal(unkeyedAgain, kept) {
		t.Errorf("a change of what was answered is seen in the next answer: %v, %v", again, unkeyedAgain)
	}
}

func TestNothingIsRemembered(t *testing.T) { // P3
	rows := rising()
	var hands sync.WaitGroup
	for hand := range 4 {
		hands.Go(func() {
			for i := range rows {
				if hand%2 == 1 {
					i = len(rows) - 1 - i
				}
				Read("\x01\x04")
				Unkey("\x06")
				s, _ := Write(rows[i])
				if row, size, err := Read(s); !slices.Equal(row, rows[i]) || size != len(s) || err != api.OK {
					t.Errorf("Read(%x) is %v %d %d", s, row, size, err)
				}
				k, _ := Key(rows[i])
				if row, err := Unkey(k); !slices.Equal(row, rows[i]) || err != api.OK {
					t.Errorf("Unkey(%x) is %v %d", k, row, err)
				}
			}
		})
	}
	hands.Wait()
}

package leaf

import (
	"math"
	"slices"
	"strings"
	"sync"
	"testing"

	"starling/api"
)

// M1: limits and one beyond them, and each error where its order has it.
func TestCheck(t *testing.T) {
	bad := api.Value{Kind: 4}
	for i, c := range []struct {
		l    entries
		want api.Errno
	}{
		{nil, 0}, {entries{}, 0}, {numbered(1), 0}, {numbered(40), 0}, {numbered(41), api.ErrMany}, {make(entries, 41), api.ErrMany}, {make(entries, 40), api.ErrRange},
		{entries{entry(1)}, 0}, {entries{entry(math.MaxInt64)}, 0}, {entries{entry(0)}, api.ErrRange}, {entries{entry(-1)}, api.ErrRange}, {entries{entry(math.MinInt64)}, api.ErrRange},
		{entries{entry(1), entry(2), entry(math.MaxInt64)}, 0}, {entries{entry(5), entry(5)}, api.ErrState}, {entries{entry(5), entry(4)}, api.ErrState}, {entries{entry(1), entry(3), entry(2)}, api.ErrState}, {entries{entry(1), entry(2), entry(3), entry(3)}, api.ErrState}, {entries{entry(math.MaxInt64), entry(math.MaxInt64)}, api.ErrState},
		{entries{entry(5), entry(0)}, api.ErrRange}, {entries{entry(5), entry(-6)}, api.ErrRange}, {entries{entry(5), entry(5), entry(0)}, api.ErrState}, {entries{entry(5), entry(0), entry(0)}, api.ErrRange},
		{entries{entry(1, nulls(8)...)}, 0}, {entries{entry(1, nulls(9)...)}, api.ErrMany}, {entries{entry(1, append(nulls(8), bad)...)}, api.ErrMany}, {entries{entry(1, nulls(100)...)}, api.ErrMany},
		{entries{entry(1, bad)}, api.ErrKind}, {entries{entry(1, api.Value{Kind: -1})}, api.ErrKind}, {entries{entry(1, api.Value{N: 1})}, api.ErrForm}, {entries{entry(1, api.Value{Kind: api.Int, S: "a"})}, api.ErrForm}, {entries{entry(1, api.Value{Kind: api.Blob, N: 1})}, api.ErrForm},
		{entries{entry(1, text(long(16)), blob(long(16)))}, 0}, {entries{entry(1, text(long(17)))}, api.ErrMany}, {entries{entry(1, blob(long(17)))}, api.ErrMany}, {entries{entry(1, text(long(17)), bad)}, api.ErrMany}, {entries{entry(1, bad, text(long(17)))}, api.ErrKind}, {entries{entry(1, append(nulls(7), bad)...)}, api.ErrKind},
		{entries{entry(0, bad)}, api.ErrRange}, {entries{entry(0, nulls(9)...)}, api.ErrRange}, {entries{entry(2), entry(2, bad)}, api.ErrState}, {entries{entry(2), entry(1, nulls(9)...)}, api.ErrState}, {entries{entry(2, bad), entry(1)}, api.ErrKind}, {entries{entry(2, bad), entry(0)}, api.ErrKind}, {entries{entry(2, nulls(9)...), entry(0)}, api.ErrMany}, {entries{entry(1), entry(0), entry(2, bad)}, api.ErrRange},
	} {
		if _, err := hold(t, c.l); err != c.want {
			t.Errorf("%d: %d; want %d", i, err, c.want)
		}
	}
}

// M1: bytes of entries, written out.
func TestPack(t *testing.T) {
	for _, c := range []struct {
		l    entries
		want string
	}{
		{nil, "\x00"}, {entries{entry(1)}, "\x01\x02\x00"}, {entries{entry(63), entry(64)}, "\x02\x7e\x00\x80\x01\x00"},
		{entries{entry(1, whole(-1), text("ab"))}, "\x01\x02\x02\x01\x01\x02\x02ab"}, {entries{entry(2, api.Value{}), entry(3, blob("\x00"))}, "\x02\x04\x01\x00\x06\x01\x03\x01\x00"},
		{entries{entry(math.MaxInt64)}, "\x01\xfe\xff\xff\xff\xff\xff\xff\xff\xff\x01\x00"},
	} {
		hold(t, c.l)
		if s, err := Pack(c.l); s != c.want || err != api.OK {
			t.Errorf("Pack(%v) = %q, %d; want %q", c.l, s, err, c.want)
		}
	}
}

// M1, M2: 245 bytes can be packed, 246 can't; what is wrong is told ahead of it.
func TestPackLimit(t *testing.T) {
	full := entries{entry(1, texts16(7, 16)...), entry(2, texts16(5, 4)...)}
	s, err := Pack(full)
	if err != api.OK || len(s) != 245 {
		t.Fatalf("%d, %d", len(s), err)
	}
	if err := holdText(t, s); err != api.OK {
		t.Errorf("%d", err)
	}
	over := entries{entry(1, texts16(7, 16)...), entry(2, texts16(5, 5)...)}
	for _, l := range []entries{over, {full[0], entry(64, full[1].Row...)}, {full[0], full[1], entry(3)}, {full[0], entry(2, full[0].Row...)}} {
		if packed, checked := hold(t, l); packed != api.ErrMany || checked != api.OK {
			t.Errorf("%v: %d, %d", l, packed, checked)
		}
	}
	if packed, checked := hold(t, append(slices.Clone(over), entry(2))); packed != api.ErrState || checked != api.ErrState {
		t.Errorf("%d, %d", packed, checked)
	}
	var tight entries
	for i := range 40 {
		tight = append(tight, entry(int64(i+1), nulls(4)...))
	}
	tight[39].Row = nulls(8)
	if s, err := Pack(tight); err != api.OK || len(s) != 245 {
		t.Errorf("%d, %d", len(s), err)
	}
	hold(t, tight)
	tight[0].Row = nulls(5)
	if packed, _ := hold(t, tight); packed != api.ErrMany {
		t.Errorf("%d", packed)
	}
}

// M2: each error where its order has it.
func TestUnpack(t *testing.T) {
	for _, c := range []struct {
		s    string
		want api.Errno
	}{
		{"\x00", 0}, {"\x01\x02\x00", 0}, {"\x02\x02\x00\x04\x00", 0},
		{"", api.ErrNone}, {"\x80", api.ErrNone}, {"\x80\x00", api.ErrForm}, {"\x81\x00\x02\x00", api.ErrForm}, {strings.Repeat("\xff", 10), api.ErrMany}, {strings.Repeat("\xff", 9) + "\x02", api.ErrMany}, {strings.Repeat("\xff", 9) + "\x01", api.ErrMany},
		{"\x28", api.ErrNone}, {"\x29", api.ErrMany}, {"\x29\x80\x00", api.ErrMany}, {"\x80\x01", api.ErrMany}, {"\xa8\x02", api.ErrMany}, {"\x28\x80\x00", api.ErrForm},
		{"\x01", api.ErrNone}, {"\x01\x80", api.ErrNone}, {"\x01\x82\x00\x00", api.ErrForm}, {"\x01" + strings.Repeat("\xff", 10), api.ErrMany},
		{"\x01\x00", api.ErrRange}, {"\x01\x01", api.ErrRange}, {"\x01\x00\x00\x00", api.ErrRange}, {"\x01\x03\x09", api.ErrRange}, {"\x01" + strings.Repeat("\xff", 9) + "\x01\x00", api.ErrRange}, {"\x01" + "\xfe" + strings.Repeat("\xff", 8) + "\x01\x00", 0},
		{"\x02\x04\x00\x04\x00", api.ErrState}, {"\x02\x04\x00\x02\x00", api.ErrState}, {"\x02\x04\x00\x04", api.ErrState}, {"\x02\x04\x00\x04\x09", api.ErrState}, {"\x02\x04\x00\x00\x00", api.ErrRange}, {"\x02\x04\x00\x03\x00", api.ErrRange}, {"\x03\x02\x00\x06\x00\x04\x00", api.ErrState},
		{"\x01\x02", api.ErrNone}, {"\x01\x02\x80\x00", api.ErrForm}, {"\x01\x02\x09", api.ErrMany}, {"\x01\x02\x08" + noughts(8), 0}, {"\x01\x02\x08" + noughts(7), api.ErrNone}, {"\x01\x02\x08" + noughts(9), api.ErrForm}, {"\x01\x02\x01\x04", api.ErrKind}, {"\x01\x02\x01\x01", api.ErrNone}, {"\x01\x02\x01\x01\x80\x00", api.ErrForm}, {"\x01\x02\x01\x02\x11" + long(17), api.ErrMany}, {"\x01\x02\x01\x02\x10" + long(16), 0}, {"\x01\x02\x01\x03\x10" + long(15), api.ErrNone}, {"\x01\x02\x01\x02\x10" + long(17), api.ErrForm},
		{"\x02\x02\x09\x00", api.ErrMany}, {"\x02\x04\x01\x04\x00", api.ErrKind}, {"\x02\x02\x00", api.ErrNone},
		{"\x00\x00", api.ErrForm}, {"\x00a", api.ErrForm}, {"\x01\x02\x00\x00", api.ErrForm}, {"\x01\x02\x00\x04\x00", api.ErrForm},
		{noughts(245), api.ErrForm}, {noughts(246), api.ErrMany}, {"\x01\x00" + noughts(243), api.ErrRange}, {"\x01\x00" + noughts(244), api.ErrMany}, {strings.Repeat("\x80", 246), api.ErrMany}, {"\x80\x00" + noughts(244), api.ErrMany}, {noughts(1 << 16), api.ErrMany},
	} {
		if err := holdText(t, c.s); err != c.want {
			t.Errorf("%q: %d; want %d", c.s, err, c.want)
		}
	}
}

// M2: what is packed is unpacked as it was; cut off at each place, with each byte turned into another one, and with a byte more at each place it is what the document says.
func TestUnpackDamaged(t *testing.T) {
	d := draw(3)
	for n := range 12 {
		l := drawnEntries(&d, n, 3)
		s, err := Pack(l)
		if err != api.OK {
			t.Fatalf("%v: %d", l, err)
		}
		for at := range len(s) {
			if err := holdText(t, s[:at]); err != api.ErrNone {
				t.Errorf("%q: %d", s[:at], err)
			}
			for b := range 256 {
				holdText(t, s[:at]+string([]byte{byte(b)})+s[at+1:])
				holdText(t, s[:at]+string([]byte{byte(b)})+s[at:])
			}
			holdText(t, s[:at]+s[at+1:])
		}
		if err := holdText(t, s+"\x00"); err != api.ErrForm {
			t.Errorf("%q: %d", s, err)
		}
	}
}

func sizes(lists []entries) []int {
	var out []int
	for _, l := range lists {
		out = append(out, len(l))
	}
	return out
}

// M3: lists as long as can be, the last byte of a page too.
func TestFill(t *testing.T) {
	a, b, c := entry(1, texts16(7, 16)...), entry(2, texts16(5, 4)...), entry(2, texts16(5, 5)...)
	big := func(n int) entries {
		var l entries
		for i := range n {
			l = append(l, entry(math.MaxInt64-int64(n-i), texts16(7, 16)...))
		}
		return l
	}
	half := entry(3, texts16(5, 5)...)
	for i, x := range []struct {
		l    entries
		want []int
	}{
		{nil, nil}, {entries{}, nil}, {entries{entry(1)}, []int{1}}, {numbered(40), []int{40}},
		{entries{a, b}, []int{2}}, {entries{a, c}, []int{1, 1}}, {entries{a, b, entry(3)}, []int{2, 1}}, {entries{a, c, entry(3)}, []int{1, 2}}, {entries{a, b, half, entry(4, texts16(7, 15)...)}, []int{2, 2}}, {entries{a, b, half, entry(4, texts16(7, 16)...)}, []int{2, 1, 1}},
		{big(1), []int{1}}, {big(2), []int{1, 1}}, {big(40), slices.Repeat([]int{1}, 40)},
	} {
		hold(t, x.l)
		lists, err := Fill(x.l)
		if !slices.Equal(sizes(lists), x.want) || err != api.OK || !same(slices.Concat(lists...), x.l) {
			t.Errorf("%d: %v, %d; want %v", i, sizes(lists), err, x.want)
		}
		for _, l := range lists {
			if _, err := Pack(l); err != api.OK || len(l) == 0 {
				t.Errorf("%d: %v can't be packed: %d", i, l, err)
			}
		}
	}
	for _, l := range []entries{make(entries, 41), numbered(41), append(numbered(39), entry(39)), append(big(39), entry(0)), {a, c, entry(3, api.Value{Kind: 9})}} {
		if lists, err := Fill(l); lists != nil || err == api.OK {
			t.Errorf("Fill(%v) = %v, %d", l, lists, err)
		}
	}
}

// M1 to M3, P1: drawn lists, right and wrong, and drawn texts.
func TestDrawn(t *testing.T) {
	d := draw(1)
	packs, checks, reads := map[api.Errno]int{}, map[api.Errno]int{}, map[api.Errno]int{}
	for range 20000 {
		l := drawnEntries(&d, d.below(42), d.below(9))
		if d.below(2) == 0 {
			l = spoil(&d, l)
		}
		packed, checked := hold(t, l)
		packs[packed]++
		checks[checked]++
		s, _ := Pack(l[:min(len(l), 6)])
		b := []byte(s)
		for range d.below(4) {
			if len(b) > 0 {
				b[d.below(len(b))] = byte(d.below(256) >> d.below(9))
			}
		}
		reads[holdText(t, string(b))]++
	}
	for _, err := range []api.Errno{api.OK, api.ErrMany, api.ErrRange, api.ErrState, api.ErrKind, api.ErrForm} {
		if packs[err] < 100 || checks[err] < 100 || reads[err] < 100 {
			t.Errorf("%d: drawn too few: %d, %d, %d", err, packs[err], checks[err], reads[err])
		}
	}
}

// roomy answers entries with spare room behind them and behind their rows, filled.
func roomy(l entries) entries {
	out := make(entries, 0, len(l)+2)
	for _, e := range l {
		row := append(slices.Clone(e.Row), whole(77), text("room"))
		out = append(out, api.Entry{Id: e.Id, Row: row[:len(e.Row)]})
	}
	return append(out, entry(78), entry(79))[:len(l)]
}

// entire tells all that entries have, their spare room too.
func entire(l entries) entries {
	var out entries
	for _, e := range l[:cap(l)] {
		out = append(out, api.Entry{Id: e.Id, Row: slices.Clone(e.Row[:cap(e.Row)])})
	}
	return out
}

// own writes all over lists, and tells whether no two of them share memory.
func own(lists ...entries) bool {
	n := int64(1000)
	rows := [][]api.Value{}
	for _, l := range lists {
		for _, e := range l {
			rows = append(rows, e.Row[:cap(e.Row)])
		}
	}
	for i, row := range rows {
		for k := range row {
			row[k] = whole(n + int64(i))
		}
	}
	for i, l := range lists {
		for k := range l[:cap(l)] {
			l[:cap(l)][k] = entry(n + int64(i))
		}
	}
	for i, row := range rows {
		if slices.ContainsFunc(row, func(v api.Value) bool { return v != whole(n+int64(i)) }) {
			return false
		}
	}
	for i, l := range lists {
		if slices.ContainsFunc(l[:cap(l)], func(e api.Entry) bool { return e.Id != n+int64(i) }) {
			return false
		}
	}
	return true
}

// P2: what is handed in is only read, the room behind it too, and what is answered is the caller's, even if rows that were handed in are one.
func TestOnlyRead(t *testing.T) {
	d := draw(5)
	row := texts16(6, 3)
	for _, l := range []entries{nil, roomy(drawnEntries(&d, 5, 8)), roomy(drawnEntries(&d, 40, 8)), {entry(1, row...), entry(2, row...), entry(3, row...)}, roomy(numbered(3)), roomy(make(entries, 2))} {
		kept := entire(l)
		for range 2 {
			hold(t, l)
			lists, _ := Fill(l)
			if !own(lists...) || !same(entire(l), kept) {
				t.Fatalf("Fill: memory is shared, %v has become %v", kept, entire(l))
			}
			s, _ := Pack(l[:min(len(l), 3)])
			back, _ := Unpack(s)
			if !own(back) || !same(entire(l), kept) {
				t.Fatalf("Unpack: memory is shared, %v has become %v", kept, entire(l))
			}
			holdText(t, s)
		}
	}
	l := entries{entry(1, whole(5))}
	lists, _ := Fill(l)
	l[0].Row[0], l[0].Id = text("changed"), 9
	if !same(lists[0], entries{entry(1, whole(5))}) {
		t.Errorf("a change is seen in what was answered: %v", lists)
	}
}

// P3: whatever was asked ahead of it, and whoever asks at the same time.
func TestNothingIsKept(t *testing.T) {
	var hands sync.WaitGroup
	for seed := range 4 {
		hands.Go(func() {
			d := draw(60 + seed)
			for range 500 {
				l := spoil(&d, drawnEntries(&d, d.below(42), 8))
				hold(t, l)
				hold(t, l)
			}
		})
	}
	hands.Wait()
}

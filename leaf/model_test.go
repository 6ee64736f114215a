package leaf

import (
	"encoding/binary"
	"math/bits"
	"slices"
	"strings"
	"testing"

	"starling/api"
	"starling/num"
	"starling/record"
	"starling/value"
)

// draw: numbers that are the same each time.
type draw uint64

func (d *draw) next() uint64 {
	*d = *d*6364136223846793005 + 1442695040888963407
	x := uint64(*d)
	return bits.RotateLeft64(x^x>>29, 23) * 0x9E3779B97F4A7C15
}

func (d *draw) below(n int) int { return int(d.next() >> 11 % uint64(n)) }

type entries = []api.Entry

func whole(n int64) api.Value       { return api.Value{Kind: api.Int, N: n} }
func text(s string) api.Value       { return api.Value{Kind: api.Text, S: s} }
func blob(s string) api.Value       { return api.Value{Kind: api.Blob, S: s} }
func long(n int) string             { return strings.Repeat("w", n) }
func nulls(n int) []api.Value       { return make([]api.Value, n) }
func noughts(n int) string          { return strings.Repeat("\x00", n) }
func sameEntry(a, b api.Entry) bool { return a.Id == b.Id && slices.Equal(a.Row, b.Row) }
func same(a, b entries) bool        { return slices.EqualFunc(a, b, sameEntry) }

// entry: an Id, and a row.
func entry(id int64, row ...api.Value) api.Entry { return api.Entry{Id: id, Row: row} }

// texts16 has so many texts of 16 bytes, and one of so many behind them.
func texts16(n, last int) []api.Value {
	l := slices.Repeat([]api.Value{text(long(16))}, n)
	return append(l, text(long(last)))
}

// numbered has so many entries without values.
func numbered(n int) entries {
	var l entries
	for i := range n {
		l = append(l, entry(int64(i+1)))
	}
	return l
}

func modelCheck(l entries) api.Errno {
	if len(l) > 40 {
		return api.ErrMany
	}
	for i, e := range l {
		if e.Id < 1 {
			return api.ErrRange
		}
		if i > 0 && e.Id <= l[i-1].Id {
			return api.ErrState
		}
		if len(e.Row) > 8 {
			return api.ErrMany
		}
		for _, v := range e.Row {
			if err := value.Check(v); err != api.OK {
				return err
			}
		}
	}
	return api.OK
}

// modelPack writes numbers by another hand.
func modelPack(l entries) (string, api.Errno) {
	if err := modelCheck(l); err != api.OK {
		return "", err
	}
	b := binary.AppendUvarint(nil, uint64(len(l)))
	for _, e := range l {
		b = binary.AppendVarint(b, e.Id)
		b = binary.AppendUvarint(b, uint64(len(e.Row)))
		for _, v := range e.Row {
			b = append(b, byte(v.Kind))
			switch v.Kind {
			case api.Int:
				b = binary.AppendVarint(b, v.N)
			case api.Text, api.Blob:
				b = append(append(b, byte(len(v.S))), v.S...)
			}
		}
	}
	if len(b) > 245 {
		return "", api.ErrMany
	}
	return string(b), api.OK
}

func modelUnpack(s string) (entries, api.Errno) {
	if len(s) > 245 {
		return nil, api.ErrMany
	}
	n, at, err := num.Read(s)
	if err != api.OK {
		return nil, err
	}
	if n > 40 {
		return nil, api.ErrMany
	}
	var l entries
	for i := range int(n) {
		id, size, err := num.ReadSigned(s[at:])
		if err != api.OK {
			return nil, err
		}
		if id < 1 {
			return nil, api.ErrRange
		}
		if i > 0 && id <= l[i-1].Id {
			return nil, api.ErrState
		}
		row, more, err := record.Read(s[at+size:])
		if err != api.OK {
			return nil, err
		}
		l = append(l, api.Entry{Id: id, Row: row})
		at += size + more
	}
	if at < len(s) {
		return nil, api.ErrForm
	}
	return l, api.OK
}

// modelFill takes of what is left the longest list that can be packed, by trying each length.
func modelFill(l entries) ([]entries, api.Errno) {
	if err := modelCheck(l); err != api.OK {
		return nil, err
	}
	var lists []entries
	for len(l) > 0 {
		most := 0
		for n := range len(l) {
			if _, err := modelPack(l[:n+1]); err == api.OK {
				most = n + 1
			}
		}
		lists = append(lists, l[:most])
		l = l[most:]
	}
	return lists, api.OK
}

// hold holds all calls of entries against the model, and tells the errors of Pack and of Check.
func hold(t *testing.T, l entries) (packed, checked api.Errno) {
	t.Helper()
	checked = Check(l)
	if want := modelCheck(l); checked != want {
		t.Errorf("Check(%v) = %d; want %d", l, checked, want)
	}
	s, packed := Pack(l)
	if want, wantErr := modelPack(l); s != want || packed != wantErr {
		t.Errorf("Pack(%v) = %q, %d; want %q, %d", l, s, packed, want, wantErr)
	}
	lists, err := Fill(l)
	if want, wantErr := modelFill(l); !slices.EqualFunc(lists, want, same) || err != wantErr || err != api.OK && lists != nil {
		t.Errorf("Fill(%v) = %v, %d; want %v, %d", l, lists, err, want, wantErr)
	}
	if packed == api.OK {
		if back, err := Unpack(s); !same(back, l) || err != api.OK {
			t.Errorf("%v is unpacked as %v, %d", l, back, err)
		}
	}
	return packed, checked
}

// holdText holds Unpack against the model, and tells its error; what is unpacked is packed as it stood.
func holdText(t *testing.T, s string) api.Errno {
	t.Helper()
	l, err := Unpack(s)
	if want, wantErr := modelUnpack(s); !same(l, want) || err != wantErr || err != api.OK && l != nil {
		t.Errorf("Unpack(%q) = %v, %d; want %v, %d", s, l, err, want, wantErr)
	}
	if err == api.OK {
		if again, err := Pack(l); again != s || err != api.OK {
			t.Errorf("%q is packed as %q, %d", s, again, err)
		}
	}
	return err
}

func drawnValue(d *draw) api.Value {
	switch d.below(5) {
	case 0:
		return api.Value{}
	case 1:
		return whole(int64(d.next()) >> d.below(64))
	case 2:
		return blob(long(d.below(17)))
	}
	b := make([]byte, d.below(17))
	for i := range b {
		b[i] = byte(d.below(256))
	}
	return text(string(b))
}

func drawnEntries(d *draw, n, width int) entries {
	var l entries
	id := int64(0)
	for range n {
		id += 1 + int64(d.next()>>1)>>(40+d.below(24))
		e := entry(id)
		for range d.below(width + 1) {
			e.Row = append(e.Row, drawnValue(d))
		}
		l = append(l, e)
	}
	return l
}

// spoil makes something of entries wrong, mostly.
func spoil(d *draw, l entries) entries {
	if len(l) == 0 {
		return l
	}
	e := &l[d.below(len(l))]
	switch d.below(7) {
	case 0:
		e.Id = int64(d.below(3) - 1)
	case 1:
		e.Id = l[d.below(len(l))].Id
	case 2:
		e.Id = -e.Id
	case 3:
		e.Row = nulls(8 + d.below(3))
	case 4:
		e.Row = append(e.Row, api.Value{Kind: 4 + d.below(2)})
	case 5:
		e.Row = append(e.Row, text(long(16+d.below(3))))
	case 6:
		e.Row = append(e.Row, api.Value{Kind: d.below(4), N: int64(d.below(2)), S: long(d.below(2))})
	}
	return l
}

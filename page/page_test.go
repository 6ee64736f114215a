package page

import (
	"encoding/binary"
	"hash/crc32"
	"math"
	"math/bits"
	"strings"
	"sync"
	"testing"

	"starling/api"
)

// draw: numbers that are the same each time.
type draw uint64

func (d *draw) next() uint64 {
	*d = *d*6364136223846793005 + 1442695040888963407
	x := uint64(*d)
	return bits.RotateLeft64(x^x>>29, 23) * 0x9E3779B97F4A7C15
}

func (d *draw) below(n int) int { return int(d.next() >> 11 % uint64(n)) }

func (d *draw) text(n int) string {
	b := make([]byte, n)
	for i := range b {
		b[i] = byte(d.below(256))
	}
	return string(b)
}

// closed sets the right sum behind 252 bytes.
func closed(ahead string) string {
	return string(binary.LittleEndian.AppendUint32([]byte(ahead), crc32.Checksum([]byte(ahead), crc32.MakeTable(crc32.Castagnoli))))
}

// raw writes numbers as they are, right or not, and bytes up to the sum.
func raw(no, kind, owner, size int, rest string) string {
	b := binary.BigEndian.AppendUint16(nil, uint16(no))
	b = append(b, byte(kind))
	b = binary.BigEndian.AppendUint16(b, uint16(owner))
	b = binary.BigEndian.AppendUint16(b, uint16(size))
	return closed(string(b) + rest + strings.Repeat("\x00", 245-len(rest)))
}

func modelCheck(p api.Page) api.Errno {
	if p.No < 0 || p.No > 31 {
		return api.ErrRange
	}
	if p.Kind < 1 || p.Kind > 4 {
		return api.ErrKind
	}
	if p.Owner < 0 || p.Owner > 999 {
		return api.ErrRange
	}
	if len(p.Body) > 245 {
		return api.ErrMany
	}
	return api.OK
}

func checkSeal(t *testing.T, p api.Page, want api.Errno) {
	t.Helper()
	if err := Check(p); err != want || err != modelCheck(p) {
		t.Errorf("Check(%v) = %d; want %d", p, err, want)
	}
	s, err := Seal(p)
	if err != want || err != api.OK && s != "" {
		t.Errorf("Seal(%v) = %q, %d; want %d", p, s, err, want)
	}
	if want != api.OK {
		return
	}
	if model := raw(p.No, p.Kind, p.Owner, len(p.Body), p.Body); s != model {
		t.Errorf("Seal(%v) = %q; want %q", p, s, model)
	}
	if q, err := Open(p.No, s); q != p || err != api.OK {
		t.Errorf("%v is opened as %v, %d", p, q, err)
	}
}

func checkWrong(t *testing.T, no int, s string, want api.Errno) {
	t.Helper()
	if p, err := Open(no, s); p != (api.Page{}) || err != want {
		t.Errorf("Open(%d, %q) = %v, %d; want %d", no, s, p, err, want)
	}
}

// L1: each part at its limits and one beyond them, in the order of errors.
func TestCheck(t *testing.T) {
	body := strings.Repeat("b", 245)
	for _, c := range []struct {
		p   api.Page
		err api.Errno
	}{
		{api.Page{Kind: 1}, 0}, {api.Page{No: 31, Kind: 4, Owner: 999, Body: body}, 0}, {api.Page{No: 1, Kind: 2, Owner: 1, Body: "\x00"}, 0}, {api.Page{No: 7, Kind: 3, Owner: 256, Body: "a"}, 0},
		{api.Page{}, api.ErrKind}, {api.Page{Kind: 5}, api.ErrKind}, {api.Page{Kind: -1}, api.ErrKind}, {api.Page{Kind: 257}, api.ErrKind}, {api.Page{Kind: math.MaxInt}, api.ErrKind}, {api.Page{Kind: math.MinInt}, api.ErrKind},
		{api.Page{No: 32, Kind: 1}, api.ErrRange}, {api.Page{No: -1, Kind: 1}, api.ErrRange}, {api.Page{No: 1 << 16, Kind: 1}, api.ErrRange}, {api.Page{No: math.MaxInt, Kind: 1}, api.ErrRange}, {api.Page{No: math.MinInt, Kind: 1}, api.ErrRange},
		{api.Page{Kind: 1, Owner: 1000}, api.ErrRange}, {api.Page{Kind: 1, Owner: -1}, api.ErrRange}, {api.Page{Kind: 1, Owner: 1 << 16}, api.ErrRange}, {api.Page{Kind: 1, Owner: math.MaxInt}, api.ErrRange}, {api.Page{Kind: 1, Owner: math.MinInt}, api.ErrRange},
		{api.Page{Kind: 1, Body: body + "b"}, api.ErrMany}, {api.Page{Kind: 1, Body: strings.Repeat("b", 1<<16)}, api.ErrMany},
		{api.Page{No: 32, Kind: 9}, api.ErrRange}, {api.Page{No: 32, Kind: 1, Body: body + "b"}, api.ErrRange}, {api.Page{Kind: 9, Owner: 1000}, api.ErrKind}, {api.Page{Kind: 9, Body: body + "b"}, api.ErrKind}, {api.Page{Kind: 4, Owner: 1000, Body: body + "b"}, api.ErrRange},
	} {
		checkSeal(t, c.p, c.err)
	}
}

// L1: a page's bytes, written out.
func TestSeal(t *testing.T) {
	s, err := Seal(api.Page{No: 31, Kind: api.Leaf, Owner: 999, Body: "abc"})
	if err != api.OK || len(s) != 256 || s[:11] != "\x00\x1f\x04\x03\xe7\x00\x03abc\x00" || s[250:] != "\x00\x00\xa3\xf2\xa1\xf3" {
		t.Errorf("%q, %d", s, err)
	}
}

// L1, L2: what is sealed is opened as it was, of each place, kind and length, and some owners.
func TestBothWays(t *testing.T) {
	d := draw(1)
	for no := range 32 {
		for kind := 1; kind <= 4; kind++ {
			for _, owner := range []int{0, 1, 255, 256, 998, 999, d.below(1000)} {
				checkSeal(t, api.Page{No: no, Kind: kind, Owner: owner, Body: d.text(d.below(246))}, api.OK)
			}
		}
	}
	for size := range 246 {
		checkSeal(t, api.Page{No: 5, Kind: 4, Owner: 3, Body: d.text(size)}, api.OK)
		checkSeal(t, api.Page{No: 5, Kind: 4, Owner: 3, Body: strings.Repeat("\x00", size)}, api.OK)
		checkSeal(t, api.Page{No: 5, Kind: 4, Owner: 3, Body: strings.Repeat("\xff", size)}, api.OK)
	}
}

// L2: each error where its order has it.
func TestOpenErrors(t *testing.T) {
	right := raw(3, 4, 7, 3, "abc")
	if p, err := Open(3, right); err != api.OK || p != (api.Page{No: 3, Kind: 4, Owner: 7, Body: "abc"}) {
		t.Fatalf("%v, %d", p, err)
	}
	for _, no := range []int{-1, 32, 65536 + 3, math.MaxInt, math.MinInt} {
		for _, s := range []string{right, "", right[:255], right + "a", strings.Repeat("\x00", 256), raw(no, 4, 7, 3, "abc")} {
			checkWrong(t, no, s, api.ErrRange)
		}
	}
	for _, s := range []string{"", "a", right[:255], right[1:], right + "\x00", right + right, right[:7], strings.Repeat("\x00", 255), strings.Repeat("\x00", 1<<16)} {
		checkWrong(t, 3, s, api.ErrForm)
	}
	for _, s := range []string{raw(2, 4, 7, 3, "abc"), raw(3+256, 4, 7, 3, "abc"), raw(3+256*255, 4, 7, 3, "abc"), raw(32, 4, 7, 3, "abc"), raw(2, 9, 7, 300, "abc"), raw(3, 9, 7, 3, "abc")[:252] + right[252:], raw(3, 4, 7, 300, "abc")[:252] + right[252:]} {
		checkWrong(t, 3, s, api.ErrSum)
	}
	for _, kind := range []int{0, 5, 6, 128, 255} {
		for _, s := range []string{raw(3, kind, 7, 3, "abc"), raw(3, kind, 1000, 3, "abc"), raw(3, kind, 7, 246, "abc"), raw(3, kind, 7, 2, "abc")} {
			checkWrong(t, 3, s, api.ErrKind)
		}
	}
	for _, owner := range []int{1000, 1001, 1024, 65535} {
		for _, s := range []string{raw(3, 4, owner, 3, "abc"), raw(3, 4, owner, 246, "abc"), raw(3, 4, owner, 2, "abc")} {
			checkWrong(t, 3, s, api.ErrRange)
		}
	}
	for size := 246; size < 1<<16; size += 1 + size/40 {
		checkWrong(t, 3, raw(3, 4, 7, size, "abc"), api.ErrMany)
		checkWrong(t, 3, raw(3, 4, 7, size, strings.Repeat("a", 245)), api.ErrMany)
	}
	checkWrong(t, 3, raw(3, 4, 7, 65535, ""), api.ErrMany)
	full := raw(3, 4, 7, 245, strings.Repeat("a", 245))
	if p, err := Open(3, full); err != api.OK || len(p.Body) != 245 {
		t.Errorf("%v, %d", p, err)
	}
}

// L2: each byte behind Body is a nought.
func TestOpenBehindBody(t *testing.T) {
	for _, size := range []int{0, 1, 3, 100, 243, 244} {
		for at := size; at < 245; at++ {
			for _, b := range []byte{1, ' ', '0', 0x80, 0xff} {
				rest := []byte(strings.Repeat("\x00", 245))
				rest[at] = b
				checkWrong(t, 3, raw(3, 4, 7, size, string(rest)), api.ErrForm)
			}
		}
	}
}

// L3: each bit that is turned, each run of bits up to 32 and each byte that is another one is told; so is a page at another place and one left blank.
func TestDamage(t *testing.T) {
	d := draw(9)
	for _, body := range []string{"", "wren", d.text(100), d.text(245)} {
		s, _ := Seal(api.Page{No: 3, Kind: 4, Owner: 7, Body: body})
		for bit := range 8 * len(s) {
			turned := []byte(s)
			turned[bit/8] ^= 1 << (bit % 8)
			checkWrong(t, 3, string(turned), api.ErrSum)
			for i := bit + 1; i < min(bit+32, 8*len(s)); i++ {
				turned[i/8] ^= byte(d.below(2) << (i % 8))
			}
			checkWrong(t, 3, string(turned), api.ErrSum)
		}
		for no := range 32 {
			if no != 3 {
				checkWrong(t, no, s, api.ErrSum)
			}
		}
	}
	for no := range 32 {
		for _, b := range []string{"\x00", "\xff", " "} {
			checkWrong(t, no, strings.Repeat(b, 256), api.ErrSum)
		}
	}
}

// P1: whatever is handed in; with the right sum what is opened is sealed as it stood.
func TestDrawn(t *testing.T) {
	d := draw(4)
	opened := 0
	for range 20000 {
		checkWrong(t, d.below(32), d.text(d.below(256)), api.ErrForm)
		size := d.below(260)
		rest := d.text(min(size, 245))
		if d.below(4) == 0 && size < 245 {
			rest += "\x01"
		}
		no := d.below(32)
		s := raw(no, d.below(6), d.below(1100), size, rest)
		p, err := Open(no, s)
		if err != api.OK {
			if p != (api.Page{}) {
				t.Errorf("%v, %d", p, err)
			}
			continue
		}
		opened++
		if again, err := Seal(p); again != s || err != api.OK {
			t.Errorf("%q is sealed as %q, %d", s, again, err)
		}
	}
	if opened < 5000 {
		t.Errorf("only %d were opened", opened)
	}
}

// P3: whatever was asked ahead of it, and whoever asks at the same time.
func TestNothingIsKept(t *testing.T) {
	var hands sync.WaitGroup
	for seed := range 4 {
		hands.Go(func() {
			d := draw(20 + seed)
			for range 500 {
				checkSeal(t, api.Page{No: d.below(32), Kind: 1 + d.below(4), Owner: d.below(1000), Body: d.text(d.below(246))}, api.OK)
				checkWrong(t, d.below(32), "", api.ErrForm)
			}
		})
	}
	hands.Wait()
}

package disk

import (
	"math"
	"math/bits"
	"slices"
	"strings"
	"testing"

	"starling/api"
)

// draw: numbers that are the same each time.
type draw uint64

func (d *draw) next() uint64 {
	*d = *d*6364136223846793005 + 1442695040888963407
	x := uint64(*d)
	return bits.RotateLeft64(x^x>>29, 23) * 0x9E3779B97F4A7C15
}

func (d *draw) below(n int) int { return int(d.next() >> 11 % uint64(n)) }

// text: blank now and then, mostly short, with bytes of any kind.
func (d *draw) text() string {
	b := make([]byte, d.below(4)*d.below(3))
	if d.below(8) == 0 {
		b = make([]byte, 258+d.below(3))
	}
	for i := range b {
		b[i] = byte(d.below(256))
	}
	return string(b)
}

func long(n int) string                   { return strings.Repeat("p", n) }
func write(no int, text string) api.Write { return api.Write{No: no, Text: text} }
func pages(l ...string) []string          { return l }
func writes(l ...api.Write) []api.Write   { return l }
func some(n int, w api.Write) []api.Write { return slices.Repeat(writes(w), n) }
func full(n int, s string) []string       { return slices.Repeat(pages(s), n) }
func same(a, b api.Disk) bool {
	return slices.Equal(a.Pages, b.Pages) && slices.Equal(a.Waiting, b.Waiting)
}
func isZero(d api.Disk) bool                  { return len(d.Pages) == 0 && len(d.Waiting) == 0 }
func disk(p []string, w []api.Write) api.Disk { return api.Disk{Pages: p, Waiting: w} }

// places: right ones, and all that are near to them or far off.
func places() []int {
	l := []int{-1, 32, 33, 64, math.MaxInt, math.MinInt, 1 << 32}
	for no := range 32 {
		l = append(l, no)
	}
	return l
}

func modelCheck(d api.Disk) api.Errno {
	if len(d.Pages) > 32 {
		return api.ErrMany
	}
	for _, p := range d.Pages {
		if len(p) > 260 {
			return api.ErrMany
		}
	}
	if n := len(d.Pages); n != 0 && len(d.Pages[n-1]) == 0 {
		return api.ErrForm
	}
	if len(d.Waiting) > 48 {
		return api.ErrMany
	}
	for _, w := range d.Waiting {
		if w.No < 0 || w.No > 31 {
			return api.ErrRange
		}
		if len(w.Text) > 260 {
			return api.ErrMany
		}
	}
	return api.OK
}

// modelDone does the writes of a list on pages that lie in a map, blank ones not at all.
func modelDone(d api.Disk, landed []bool) api.Disk {
	lie := map[int]string{}
	put := func(no int, text string) {
		delete(lie, no)
		if text != "" {
			lie[no] = text
		}
	}
	for no, text := range d.Pages {
		put(no, text)
	}
	for i, w := range d.Waiting {
		if landed[i] {
			put(w.No, w.Text)
		}
	}
	var out api.Disk
	for no := 0; len(lie) > 0; no++ {
		out.Pages = append(out.Pages, lie[no])
		delete(lie, no)
	}
	return out
}

func all(n int) []bool { return slices.Repeat([]bool{true}, n) }

// bitsOf tells the bits of a number by dividing it.
func bitsOf(landed uint64, n int) []bool {
	var l []bool
	for range n {
		l = append(l, landed%2 == 1)
		landed /= 2
	}
	return l
}

// holdRead holds Check and Read of each place against the model, and answers what Check tells.
func holdRead(t *testing.T, d api.Disk) api.Errno {
	t.Helper()
	want := modelCheck(d)
	if err := Check(d); err != want {
		t.Errorf("Check(%v) = %d; want %d", d, err, want)
	}
	var now api.Disk
	if want == api.OK {
		now = modelDone(d, all(len(d.Waiting)))
	}
	for _, no := range places() {
		text, wanted := "", want
		if want == api.OK && (no < 0 || no > 31) {
			wanted = api.ErrRange
		} else if no >= 0 && no < len(now.Pages) {
			text = now.Pages[no]
		}
		if s, err := Read(d, no); s != text || err != wanted {
			t.Errorf("Read(%v, %d) = %v, %d; want %v, %d", d, no, s, err, text, wanted)
		}
	}
	return want
}

// holdWrite holds Write against the model, and answers what it tells.
func holdWrite(t *testing.T, d api.Disk, no int, text string) (api.Disk, api.Errno) {
	t.Helper()
	want := modelCheck(d)
	switch {
	case want != api.OK:
	case no < 0 || no > 31:
		want = api.ErrRange
	case len(text) > 260 || len(d.Waiting) > 47:
		want = api.ErrMany
	}
	var more api.Disk
	if want == api.OK {
		more = disk(d.Pages, slices.Concat(d.Waiting, writes(write(no, text))))
	}
	x, err := Write(d, no, text)
	if err != want || !same(x, more) {
		t.Errorf("Write(%v, %d, %v) = %v, %d; want %v, %d", d, no, text, x, err, more, want)
	}
	if err != api.OK {
		return x, err
	}
	if s, err := Read(x, no); s != text || err != api.OK {
		t.Errorf("Read(%v, %d) = %v, %d; want %v", x, no, s, err, text)
	}
	if err := Check(x); err != api.OK {
		t.Errorf("%v was written, and is wrong: %d", x, err)
	}
	return x, err
}

// holdSync holds Sync against the model, and answers what it tells.
func holdSync(t *testing.T, d api.Disk) (api.Disk, api.Errno) {
	t.Helper()
	want := modelCheck(d)
	var now api.Disk
	if want == api.OK {
		now = modelDone(d, all(len(d.Waiting)))
	}
	x, err := Sync(d)
	if err != want || !same(x, now) {
		t.Errorf("Sync(%v) = %v, %d; want %v, %d", d, x, err, now, want)
	}
	if Check(x) != api.OK {
		t.Errorf("%v was synced, and is wrong: %v", d, x)
	}
	return x, err
}

// holdCrash holds Crash against the model, and answers what it tells.
func holdCrash(t *testing.T, d api.Disk, landed uint64) (api.Disk, api.Errno) {
	t.Helper()
	want := modelCheck(d)
	var now api.Disk
	if want == api.OK {
		now = modelDone(d, bitsOf(landed, len(d.Waiting)))
	}
	x, err := Crash(d, landed)
	if err != want || !same(x, now) {
		t.Errorf("Crash(%v, %b) = %v, %d; want %v, %d", d, landed, x, err, now, want)
	}
	if Check(x) != api.OK {
		t.Errorf("%v crashed, and is wrong: %v", d, x)
	}
	return x, err
}

// hold holds each call against the model, and answers what Check tells.
func hold(t *testing.T, d api.Disk) api.Errno {
	t.Helper()
	err := holdRead(t, d)
	for _, no := range []int{-1, 0, 1, 31, 32} {
		for _, text := range pages("", "new", long(260), long(261)) {
			holdWrite(t, d, no, text)
		}
	}
	holdSync(t, d)
	for _, landed := range []uint64{0, 1, 2, 3, 5, 6, 0xaaaaaaaaaaaaaaaa, 0x5555555555555555, 1 << 47, 1 << 48, 1 << 63, math.MaxUint64} {
		holdCrash(t, d, landed)
	}
	return err
}

// drawnDisk: a right disk, with up to so many writes that wait.
func drawnDisk(d *draw, most int) api.Disk {
	var x api.Disk
	for range d.below(33) {
		x.Pages = append(x.Pages, d.text())
	}
	for len(x.Pages) > 0 && x.Pages[len(x.Pages)-1] == "" {
		x.Pages = x.Pages[:len(x.Pages)-1]
	}
	reach := 1 + d.below(32)
	for range d.below(most + 1) {
		x.Waiting = append(x.Waiting, write(d.below(reach), d.text()))
	}
	return x
}

// spoil makes something of a disk wrong, mostly.
func spoil(d *draw, x api.Disk) api.Disk {
	switch d.below(7) {
	case 0:
		x.Pages = append(x.Pages, "")
	case 1:
		x.Pages = append(x.Pages, full(30+d.below(5)-min(len(x.Pages), 30), "z")...)
	case 2:
		if len(x.Pages) > 0 {
			x.Pages[d.below(len(x.Pages))] = long(260 + d.below(3))
		}
	case 3:
		x.Waiting = append(x.Waiting, some(47+d.below(4)-min(len(x.Waiting), 47), write(d.below(32), "x"))...)
	case 4, 5, 6:
		w := write(d.below(4)*11-1, long(259+d.below(3)))
		x.Waiting = slices.Insert(x.Waiting, d.below(len(x.Waiting)+1), w)
	}
	return x
}

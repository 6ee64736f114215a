package journal

import (
	"encoding/binary"
	"math"
	"math/bits"
	"slices"
	"strings"
	"testing"

	"starling/api"
	"starling/disk"
)

// draw: numbers that are the same each time.
type draw uint64

func (d *draw) next() uint64 {
	*d = *d*6364136223846793005 + 1442695040888963407
	x := uint64(*d)
	return bits.RotateLeft64(x^x>>29, 23) * 0x9E3779B97F4A7C15
}

func (d *draw) below(n int) int { return int(d.next() >> 11 % uint64(n)) }

// text: of a page of the file; blank now and then, mostly short, with bytes of any kind.
func (d *draw) text() string {
	b := make([]byte, d.below(4)*d.below(3))
	if d.below(8) == 0 {
		b = make([]byte, 254+d.below(3))
	}
	for i := range b {
		b[i] = byte(d.below(256))
	}
	return string(b)
}

func long(n int) string                    { return strings.Repeat("p", n) }
func write(no int, text string) api.Write  { return api.Write{No: no, Text: text} }
func pages(l ...string) []string           { return l }
func writes(l ...api.Write) []api.Write    { return l }
func ops(l ...api.Op) []api.Op             { return l }
func toData(no int, text string) api.Op    { return api.Op{Kind: 1, No: no, Text: text} }
func toJournal(no int, text string) api.Op { return api.Op{Kind: 2, No: no, Text: text} }
func syncData() api.Op                     { return api.Op{Kind: 3} }
func syncJournal() api.Op                  { return api.Op{Kind: 4} }
func waits(l ...api.Write) api.Disk        { return api.Disk{Waiting: l} }
func has2(data, journal []string) api.Store {
	return api.Store{Data: lies(data...), Journal: lies(journal...)}
}
func lies(l ...string) api.Disk { return api.Disk{Pages: l} }
func sameDisk(a, b api.Disk) bool {
	return slices.Equal(a.Pages, b.Pages) && slices.Equal(a.Waiting, b.Waiting)
}
func same(a, b api.Store) bool   { return sameDisk(a.Data, b.Data) && sameDisk(a.Journal, b.Journal) }
func isZero(s api.Store) bool    { return same(s, api.Store{}) }
func some[T any](n int, v T) []T { return slices.Repeat([]T{v}, n) }
func kept2(no int, text string) string {
	return string(binary.BigEndian.AppendUint16(nil, uint16(no))) + text
}
func head(n int) string { return "J" + string([]byte{byte(n)}) }
func closing() []api.Op { return ops(syncData(), toJournal(0, "-"), syncJournal()) }

// sheets: all places of a disk.
type sheets [32]string

func sheetsOf(d api.Disk) sheets {
	var all sheets
	copy(all[:], d.Pages)
	return all
}

func (all sheets) disk() api.Disk {
	var d api.Disk
	for no, text := range all {
		if text != "" {
			d.Pages = append(d.Pages, make([]string, no+1-len(d.Pages))...)
			d.Pages[no] = text
		}
	}
	return d
}

func (all sheets) with(l []api.Write) sheets {
	for _, w := range l {
		all[w.No] = w.Text
	}
	return all
}

func modelCheck(s api.Store) api.Errno {
	for _, d := range []api.Disk{s.Data, s.Journal} {
		if err := disk.Check(d); err != api.OK {
			return err
		}
	}
	return api.OK
}

// modelPlay keeps both disks in one table, by the kind of op that writes to them.
func modelPlay(s api.Store, l []api.Op) (api.Store, api.Errno) {
	if err := modelCheck(s); err != api.OK {
		return api.Store{}, err
	}
	if len(l) > 100 {
		return api.Store{}, api.ErrMany
	}
	all := [3]sheets{1: sheetsOf(s.Data), 2: sheetsOf(s.Journal)}
	queue := [3][]api.Write{1: slices.Clone(s.Data.Waiting), 2: slices.Clone(s.Journal.Waiting)}
	for _, o := range l {
		switch {
		case o.Kind < 1 || o.Kind > 4:
			return api.Store{}, api.ErrKind
		case o.Kind > 2:
			which := o.Kind - 2
			all[which] = all[which].with(queue[which])
			queue[which] = nil
		case o.No < 0 || o.No > 31:
			return api.Store{}, api.ErrRange
		case len(o.Text) > 260 || len(queue[o.Kind]) > 47:
			return api.Store{}, api.ErrMany
		default:
			queue[o.Kind] = append(queue[o.Kind], write(o.No, o.Text))
		}
	}
	out := api.Store{Data: all[1].disk(), Journal: all[2].disk()}
	out.Data.Waiting, out.Journal.Waiting = queue[1], queue[2]
	return out, api.OK
}

// modelSteps looks for a second write of a page by holding each against all ahead of it.
func modelSteps(s api.Store, l []api.Write) ([]api.Op, api.Errno) {
	if err := modelCheck(s); err != api.OK {
		return nil, err
	}
	data, kept := sheetsOf(s.Data), sheetsOf(s.Journal)
	if len(s.Data.Waiting)+len(s.Journal.Waiting) > 0 || kept[0] != "" && kept[0][0] == 'J' {
		return nil, api.ErrState
	}
	if len(l) > 31 {
		return nil, api.ErrMany
	}
	var first, second []api.Op
	for i, w := range l {
		if w.No < 0 || w.No > 31 {
			return nil, api.ErrRange
		}
		if len(w.Text) > 256 {
			return nil, api.ErrMany
		}
		for _, ahead := range l[:i] {
			if ahead.No == w.No {
				return nil, api.ErrTwice
			}
		}
		if len(data[w.No]) > 256 {
			return nil, api.ErrMany
		}
		first = append(first, toJournal(i+1, kept2(w.No, data[w.No])))
		second = append(second, toData(w.No, w.Text))
	}
	return slices.Concat(first, ops(syncJournal(), toJournal(0, head(len(l))), syncJournal()), second, closing()), api.OK
}

func modelUndo(s api.Store) ([]api.Op, api.Errno) {
	if err := modelCheck(s); err != api.OK {
		return nil, err
	}
	if len(s.Data.Waiting)+len(s.Journal.Waiting) > 0 {
		return nil, api.ErrState
	}
	all := sheetsOf(s.Journal)
	if all[0] == "" || all[0][0] != 'J' {
		return nil, api.OK
	}
	for n := range 32 {
		if all[0] != head(n) {
			continue
		}
		var l []api.Op
		for _, page := range all[1 : n+1] {
			if len(page) < 2 || page[0] != 0 || page[1] > 31 {
				return nil, api.ErrForm
			}
			l = append(l, toData(int(page[1]), page[2:]))
		}
		return append(l, closing()...), api.OK
	}
	return nil, api.ErrForm
}

// holdPlay holds Check and Play against the model, and answers what Play tells.
func holdPlay(t *testing.T, s api.Store, l []api.Op) (api.Store, api.Errno) {
	t.Helper()
	if err, want := Check(s), modelCheck(s); err != want {
		t.Errorf("Check(%v) = %d; want %d", s, err, want)
	}
	want, wanted := modelPlay(s, l)
	x, err := Play(s, l)
	if err != wanted || !same(x, want) {
		t.Errorf("Play(%v, %v) = %v, %d; want %v, %d", s, l, x, err, want, wanted)
	}
	return x, err
}

// holdSteps holds Steps against the model, and answers what it tells.
func holdSteps(t *testing.T, s api.Store, l []api.Write) ([]api.Op, api.Errno) {
	t.Helper()
	want, wanted := modelSteps(s, l)
	x, err := Steps(s, l)
	if err != wanted || !slices.Equal(x, want) {
		t.Errorf("Steps(%v, %v) = %v, %d; want %v, %d", s, l, x, err, want, wanted)
	}
	return x, err
}

// holdUndo holds Undo and Recover against the model, and answers what Undo tells.
func holdUndo(t *testing.T, s api.Store) ([]api.Op, api.Errno) {
	t.Helper()
	want, wanted := modelUndo(s)
	x, err := Undo(s)
	if err != wanted || !slices.Equal(x, want) {
		t.Errorf("Undo(%v) = %v, %d; want %v, %d", s, x, err, want, wanted)
	}
	var mended api.Store
	if wanted == api.OK {
		mended, wanted = modelPlay(s, want)
	}
	r, err := Recover(s)
	if err != wanted || !same(r, mended) {
		t.Errorf("Recover(%v) = %v, %d; want %v, %d", s, r, err, mended, wanted)
	}
	return x, wanted
}

// hold holds each call against the model, and answers what Check tells.
func hold(t *testing.T, s api.Store) api.Errno {
	t.Helper()
	holdUndo(t, s)
	for _, l := range [][]api.Write{nil, writes(write(0, "x")), writes(write(31, ""), write(2, "y")), writes(write(1, ""), write(1, "")), some(32, write(99, "")), writes(write(-1, long(257)))} {
		holdSteps(t, s, l)
	}
	for _, l := range [][]api.Op{nil, ops(toData(3, "x"), syncData()), ops(toJournal(0, "")), ops(syncJournal(), syncData()), ops(api.Op{}), ops(toData(32, "")), some(101, api.Op{})} {
		holdPlay(t, s, l)
	}
	return Check(s)
}

// crashed answers a store of whose waiting writes just those of both numbers landed.
func crashed(s api.Store, data, journal uint64) api.Store {
	x, _ := disk.Crash(s.Data, data)
	y, _ := disk.Crash(s.Journal, journal)
	return api.Store{Data: x, Journal: y}
}

// choices tells numbers with each choice of so many bits; of more than a few bits, drawn ones and both ends.
func choices(r *draw, n int) []uint64 {
	var l []uint64
	if n <= 4 {
		for m := range uint64(1) << n {
			l = append(l, m)
		}
		return l
	}
	return append(l, 0, math.MaxUint64, r.next(), r.next())
}

// eachCrash goes through all crashes of a store in the midst of ops: how many were done, and what was left.
func eachCrash(r *draw, s api.Store, l []api.Op) func(yield func(done int, left api.Store) bool) {
	return func(yield func(done int, left api.Store) bool) {
		for done := range len(l) + 1 {
			at, _ := Play(s, l[:done])
			for _, data := range choices(r, len(at.Data.Waiting)) {
				for _, journal := range choices(r, len(at.Journal.Waiting)) {
					if !yield(done, crashed(at, data, journal)) {
						return
					}
				}
			}
		}
	}
}

// drawnWrites: right writes of so many pages.
func drawnWrites(r *draw, n int) []api.Write {
	var order [32]int
	for i := range order {
		k := r.below(i + 1)
		order[i], order[k] = order[k], i
	}
	var l []api.Write
	for _, no := range order[:n] {
		l = append(l, write(no, r.text()))
	}
	return l
}

// drawnStore: a right store on which nothing waits, its journal hot or not, of its form or not.
func drawnStore(r *draw) api.Store {
	data := sheets{}.with(drawnWrites(r, r.below(32)))
	var kept sheets
	n := r.below(32)
	for i := range n {
		kept[i+1] = kept2(r.below(32), r.text())
	}
	switch r.below(6) {
	case 0:
		kept[0] = "-"
	case 1:
		kept[0] = r.text()
	case 2:
		kept[0] = head(r.below(256))
	default:
		kept[0] = head(n)
	}
	switch at := r.below(32); r.below(6) {
	case 0:
		kept[at] = kept2(r.below(300), "q")
	case 1:
		kept[at] = kept[at][:min(len(kept[at]), r.below(3))]
	case 2:
		data[at] = long(257 + r.below(4))
	}
	return api.Store{Data: data.disk(), Journal: kept.disk()}
}

// spoilDisk makes something of a disk wrong, or wait.
func spoilDisk(r *draw, d api.Disk) api.Disk {
	switch r.below(5) {
	case 0:
		d.Pages = append(slices.Clone(d.Pages), "")
	case 1:
		d.Pages = append(slices.Clone(d.Pages), long(261))
	case 2:
		d.Waiting = writes(write(r.below(4)*11-1, "w"))
	case 3:
		d.Waiting = some(47+r.below(3), write(1, "w"))
	case 4:
		d.Waiting = writes(write(0, head(1)))
	}
	return d
}

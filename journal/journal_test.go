package journal

import (
	"math"
	"slices"
	"sync"
	"testing"

	"starling/api"
)

// P5 to P7: what is wrong with a store, Data ahead of Journal; each call tells it first.
func TestCheck(t *testing.T) {
	blank, far, wide, many := lies("a", ""), waits(write(32, "")), lies(long(261)), waits(some(49, write(0, ""))...)
	for i, c := range []struct {
		s    api.Store
		want api.Errno
	}{
		{api.Store{}, 0}, {has2(pages(), pages()), 0}, {has2(some(32, long(260)), some(32, long(260))), 0}, {api.Store{Data: waits(some(48, write(31, ""))...), Journal: waits(some(48, write(31, ""))...)}, 0},
		{api.Store{Data: blank}, api.ErrForm}, {api.Store{Journal: blank}, api.ErrForm}, {api.Store{Data: far}, api.ErrRange}, {api.Store{Journal: far}, api.ErrRange}, {api.Store{Data: wide}, api.ErrMany}, {api.Store{Journal: wide}, api.ErrMany}, {api.Store{Data: many}, api.ErrMany}, {api.Store{Journal: many}, api.ErrMany}, {has2(some(33, "z"), nil), api.ErrMany}, {has2(nil, some(33, "z")), api.ErrMany},
		{api.Store{Data: blank, Journal: far}, api.ErrForm}, {api.Store{Data: far, Journal: blank}, api.ErrRange}, {api.Store{Data: many, Journal: far}, api.ErrMany}, {api.Store{Data: far, Journal: many}, api.ErrRange},
		{api.Store{Data: waits(write(0, "a")), Journal: blank}, api.ErrForm}, {api.Store{Data: blank, Journal: lies("J")}, api.ErrForm}, {api.Store{Data: far, Journal: lies("J")}, api.ErrRange}, {api.Store{Journal: lies("J", long(261))}, api.ErrMany},
	} {
		if err := hold(t, c.s); err != c.want {
			t.Errorf("%d: %d; want %d", i, err, c.want)
		}
	}
}

// P5: what becomes of a store, written out.
func TestPlay(t *testing.T) {
	s := has2(pages("a", "b"), pages("-"))
	for i, c := range []struct {
		l    []api.Op
		want api.Store
	}{
		{nil, s}, {ops(syncData(), syncJournal()), s},
		{ops(toData(1, "B")), api.Store{Data: api.Disk{Pages: pages("a", "b"), Waiting: writes(write(1, "B"))}, Journal: s.Journal}},
		{ops(toJournal(1, "B")), api.Store{Data: s.Data, Journal: api.Disk{Pages: pages("-"), Waiting: writes(write(1, "B"))}}},
		{ops(toData(1, "B"), syncJournal()), api.Store{Data: api.Disk{Pages: pages("a", "b"), Waiting: writes(write(1, "B"))}, Journal: s.Journal}}, {ops(toData(1, "B"), syncData()), has2(pages("a", "B"), pages("-"))}, {ops(toData(1, ""), syncData()), has2(pages("a"), pages("-"))}, {ops(toData(0, "A"), toData(0, "C"), toJournal(0, ""), syncJournal(), syncData()), has2(pages("C", "b"), nil)},
		{ops(api.Op{Kind: 3, No: 99, Text: long(300)}, api.Op{Kind: 4, No: -1, Text: "x"}), s},
	} {
		if x, err := holdPlay(t, s, c.l); !same(x, c.want) || err != api.OK {
			t.Errorf("%d: %v, %d; want %v", i, x, err, c.want)
		}
	}
}

// P5: errors of Play in their order, ops at their limit and one beyond it, and as many that wait as may.
func TestPlayErrors(t *testing.T) {
	s := has2(pages("a"), nil)
	both := slices.Concat(some(48, toData(1, "x")), some(48, toJournal(31, "y")))
	for i, c := range []struct {
		l    []api.Op
		want api.Errno
	}{
		{some(100, syncData()), 0}, {some(101, syncData()), api.ErrMany}, {some(101, api.Op{}), api.ErrMany}, {some(100, api.Op{}), api.ErrKind}, {some(101, toData(32, "")), api.ErrMany}, {some(1000, syncData()), api.ErrMany},
		{ops(api.Op{Kind: 0}), api.ErrKind}, {ops(api.Op{Kind: 5}), api.ErrKind}, {ops(api.Op{Kind: -1}), api.ErrKind}, {ops(api.Op{Kind: math.MaxInt}), api.ErrKind}, {ops(api.Op{Kind: math.MinInt}), api.ErrKind}, {ops(api.Op{Kind: 257}), api.ErrKind}, {ops(api.Op{Kind: 5, No: 32, Text: long(261)}), api.ErrKind},
		{ops(toData(32, "")), api.ErrRange}, {ops(toData(-1, "")), api.ErrRange}, {ops(toJournal(32, "")), api.ErrRange}, {ops(toJournal(-1, "")), api.ErrRange}, {ops(toData(31, long(260))), 0}, {ops(toData(31, long(261))), api.ErrMany}, {ops(toJournal(31, long(260))), 0}, {ops(toJournal(31, long(261))), api.ErrMany}, {ops(toJournal(32, long(261))), api.ErrRange},
		{ops(api.Op{}, toData(32, "")), api.ErrKind}, {ops(toData(32, ""), api.Op{}), api.ErrRange}, {ops(toJournal(0, long(261)), toData(32, "")), api.ErrMany}, {ops(syncData(), toData(0, ""), api.Op{}), api.ErrKind},
		{both, 0}, {append(slices.Clone(both), toData(0, "")), api.ErrMany}, {append(slices.Clone(both), toJournal(0, "")), api.ErrMany}, {append(slices.Clone(both), syncData(), toData(0, "")), 0}, {append(slices.Clone(both), syncJournal(), toJournal(0, "")), 0}, {append(slices.Clone(both), syncJournal(), toData(0, "")), api.ErrMany}, {append(slices.Clone(both), syncData(), toJournal(0, "")), api.ErrMany}, {append(slices.Clone(both), toData(32, "")), api.ErrRange}, {append(slices.Clone(both), api.Op{}), api.ErrKind},
	} {
		if x, err := holdPlay(t, s, c.l); err != c.want || err != api.OK && !isZero(x) {
			t.Errorf("%d: %v, %d; want %d", i, x, err, c.want)
		}
	}
	full := api.Store{Data: waits(some(47, write(0, "x"))...)}
	if _, err := holdPlay(t, full, ops(toData(0, ""))); err != api.OK {
		t.Errorf("%d", err)
	}
	if _, err := holdPlay(t, full, ops(toData(0, ""), toData(0, ""))); err != api.ErrMany {
		t.Errorf("%d", err)
	}
}

// P6: the ops of some writes and of none, written out.
func TestSteps(t *testing.T) {
	s := has2(pages("a", "", "c"), pages("-", "old", "old"))
	for i, c := range []struct {
		l    []api.Write
		want []api.Op
	}{
		{nil, ops(syncJournal(), toJournal(0, "J\x00"), syncJournal(), syncData(), toJournal(0, "-"), syncJournal())},
		{writes(write(0, "A")), ops(toJournal(1, "\x00\x00a"), syncJournal(), toJournal(0, "J\x01"), syncJournal(), toData(0, "A"), syncData(), toJournal(0, "-"), syncJournal())},
		{writes(write(31, "z"), write(2, ""), write(1, "b")), ops(toJournal(1, "\x00\x1f"), toJournal(2, "\x00\x02c"), toJournal(3, "\x00\x01"), syncJournal(), toJournal(0, "J\x03"), syncJournal(), toData(31, "z"), toData(2, ""), toData(1, "b"), syncData(), toJournal(0, "-"), syncJournal())},
		{writes(write(0, "a")), ops(toJournal(1, "\x00\x00a"), syncJournal(), toJournal(0, "J\x01"), syncJournal(), toData(0, "a"), syncData(), toJournal(0, "-"), syncJournal())},
	} {
		if l, err := holdSteps(t, s, c.l); !slices.Equal(l, c.want) || err != api.OK {
			t.Errorf("%d: %v, %d; want %v", i, l, err, c.want)
		}
	}
	for _, cold := range pages("", "-", "j", "\x00J", "K\x01", "-J", " J") {
		if _, err := holdSteps(t, has2(nil, pages(cold, "x")), nil); err != api.OK {
			t.Errorf("%q: %d", cold, err)
		}
	}
}

// P6: errors in their order, writes at their limits and one beyond them.
func TestStepsErrors(t *testing.T) {
	wide := has2(pages("a", long(257), long(256), "d", long(260)), nil)
	all := drawnWrites(new(draw), 32)
	for i, c := range []struct {
		s    api.Store
		l    []api.Write
		want api.Errno
	}{
		{wide, all[:31], api.ErrMany}, {api.Store{}, all[:31], 0}, {api.Store{}, all, api.ErrMany}, {api.Store{}, some(32, write(32, "")), api.ErrMany}, {api.Store{}, some(31, write(32, "")), api.ErrRange}, {api.Store{}, some(31, write(0, "")), api.ErrTwice}, {api.Store{}, some(1000, write(0, "")), api.ErrMany},
		{wide, writes(write(31, "")), 0}, {wide, writes(write(32, "")), api.ErrRange}, {wide, writes(write(-1, "")), api.ErrRange}, {wide, writes(write(math.MaxInt, "")), api.ErrRange}, {wide, writes(write(math.MinInt, "")), api.ErrRange}, {wide, writes(write(1<<16, "")), api.ErrRange},
		{wide, writes(write(0, long(256))), 0}, {wide, writes(write(0, long(257))), api.ErrMany}, {wide, writes(write(0, long(260))), api.ErrMany}, {wide, writes(write(32, long(257))), api.ErrRange}, {wide, writes(write(1, "")), api.ErrMany}, {wide, writes(write(2, "")), 0}, {wide, writes(write(4, "")), api.ErrMany}, {wide, writes(write(0, ""), write(2, ""), write(3, "")), 0},
		{wide, writes(write(0, ""), write(0, "")), api.ErrTwice}, {wide, writes(write(0, ""), write(2, ""), write(0, "x")), api.ErrTwice}, {wide, writes(write(0, ""), write(0, long(257))), api.ErrMany}, {wide, writes(write(0, ""), write(0, ""), write(32, "")), api.ErrTwice}, {wide, writes(write(0, ""), write(32, ""), write(0, "")), api.ErrRange}, {wide, writes(write(1, ""), write(1, "")), api.ErrMany}, {wide, writes(write(1, ""), write(32, "")), api.ErrMany}, {wide, writes(write(32, ""), write(1, "")), api.ErrRange}, {wide, writes(write(0, ""), write(0, ""), write(1, "")), api.ErrTwice}, {wide, writes(write(0, ""), write(1, ""), write(0, "")), api.ErrMany},
		{has2(nil, pages("J")), nil, api.ErrState}, {has2(nil, pages("J\x00")), nil, api.ErrState}, {has2(nil, pages("Jay")), nil, api.ErrState}, {has2(nil, pages("J\xff")), some(32, write(32, "")), api.ErrState}, {api.Store{Data: waits(write(0, "a"))}, nil, api.ErrState}, {api.Store{Journal: waits(write(0, "a"))}, nil, api.ErrState}, {api.Store{Data: waits(write(0, ""))}, some(32, write(32, "")), api.ErrState}, {api.Store{Journal: api.Disk{Pages: pages("J\x00"), Waiting: writes(write(0, "-"))}}, nil, api.ErrState},
		{api.Store{Data: lies(""), Journal: lies("J")}, some(32, write(32, "")), api.ErrForm}, {api.Store{Data: waits(write(0, "a")), Journal: lies("")}, nil, api.ErrForm},
	} {
		if l, err := holdSteps(t, c.s, c.l); err != c.want || err != api.OK && len(l) > 0 {
			t.Errorf("%d: %v, %d; want %d", i, l, err, c.want)
		}
	}
	if l, err := Steps(api.Store{}, all[:31]); len(l) != 68 || err != api.OK {
		t.Errorf("%d, %d", len(l), err)
	}
}

// P7: the ops of a journal, hot and not, written out.
func TestUndo(t *testing.T) {
	for i, c := range []struct {
		journal []string
		want    []api.Op
	}{
		{nil, nil}, {pages("-"), nil}, {pages("-", "\x00\x05q"), nil}, {pages("", "\x00\x05q"), nil}, {pages("j\x01", "\x00\x05q"), nil}, {pages("K\x01"), nil}, {pages("\x00J"), nil},
		{pages("J\x00"), closing()}, {pages("J\x00", "x"), closing()},
		{pages("J\x01", "\x00\x05q"), ops(toData(5, "q"), syncData(), toJournal(0, "-"), syncJournal())}, {pages("J\x01", "\x00\x05q", "x"), ops(toData(5, "q"), syncData(), toJournal(0, "-"), syncJournal())},
		{pages("J\x02", "\x00\x1f", "\x00\x00J\x01"), ops(toData(31, ""), toData(0, "J\x01"), syncData(), toJournal(0, "-"), syncJournal())}, {pages("J\x02", "\x00\x03a", "\x00\x03b"), ops(toData(3, "a"), toData(3, "b"), syncData(), toJournal(0, "-"), syncJournal())},
		{pages("J\x01", kept2(7, long(258))), ops(toData(7, long(258)), syncData(), toJournal(0, "-"), syncJournal())},
		{append(pages("J\x1f"), some(31, "\x00\x09")...), append(some(31, toData(9, "")), closing()...)},
	} {
		s := has2(pages("a", long(260), "c"), c.journal)
		l, err := holdUndo(t, s)
		if !slices.Equal(l, c.want) || err != api.OK {
			t.Errorf("%d: %v, %d; want %v", i, l, err, c.want)
		}
		if r, err := Recover(s); len(c.want) == 0 && !same(r, s) || len(c.want) > 0 && r.Journal.Pages[0] != "-" || err != api.OK {
			t.Errorf("%d: %v, %d", i, r, err)
		}
	}
	r, err := Recover(has2(pages("a", "b", "c"), pages("J\x03", "\x00\x02", "\x00\x01B", "\x00\x00", "rest")))
	if !same(r, has2(pages("", "B"), pages("-", "\x00\x02", "\x00\x01B", "\x00\x00", "rest"))) || err != api.OK {
		t.Errorf("%v, %d", r, err)
	}
}

// P7: what is no form of a hot journal; what is wrong with a store and what waits is told ahead of it.
func TestUndoErrors(t *testing.T) {
	right := "\x00\x05q"
	for _, l := range [][]string{
		pages("J"), pages("J\x01z", right), pages("J\x00\x00"), pages("JJ", right), pages("J\x20"), append(pages("J\x20"), some(31, right)...), pages("J\xff", right), pages("J-", right),
		pages("J\x01"), pages("J\x01", "", "x"), pages("J\x01", "q"), pages("J\x01", "\x00"), pages("J\x01", "\x00\x20"), pages("J\x01", "\x00\x20q"), pages("J\x01", "\x01\x00q"), pages("J\x01", "\x01\x05q"), pages("J\x01", "\xff\xffq"), pages("J\x01", "\x05\x00"), pages("J\x02", right), pages("J\x02", right, "\x00"), pages("J\x03", right, "", right), append(pages("J\x1f"), some(30, right)...), append(append(pages("J\x1f"), some(30, right)...), "\x00\x20"),
	} {
		if o, err := holdUndo(t, has2(pages("a"), l)); len(o) > 0 || err != api.ErrForm {
			t.Errorf("%q: %v, %d", l, o, err)
		}
		for _, s := range []api.Store{{Data: waits(write(0, "a")), Journal: lies(l...)}, {Journal: api.Disk{Pages: l, Waiting: writes(write(0, "-"))}}} {
			if o, err := holdUndo(t, s); len(o) > 0 || err != api.ErrState {
				t.Errorf("%v: %v, %d", s, o, err)
			}
		}
		if o, err := holdUndo(t, api.Store{Data: waits(write(32, "a")), Journal: lies(l...)}); len(o) > 0 || err != api.ErrRange {
			t.Errorf("%q: %v, %d", l, o, err)
		}
	}
	for _, s := range []api.Store{{Data: waits(write(0, ""))}, {Journal: waits(write(0, ""))}, {Data: waits(write(0, "")), Journal: lies("-")}} {
		if o, err := holdUndo(t, s); len(o) > 0 || err != api.ErrState {
			t.Errorf("%v: %v, %d", s, o, err)
		}
	}
}

// P7: each byte of page 0's second one, and each No of two bytes.
func TestUndoEachByte(t *testing.T) {
	for b := range 256 {
		kept := append(pages(head(b)), some(31, kept2(b%32, "x"))...)
		if l, err := holdUndo(t, has2(nil, kept)); err == api.OK != (b <= 31) || err == api.OK && len(l) != b+3 {
			t.Errorf("%d: %v, %d", b, l, err)
		}
		if _, err := holdUndo(t, has2(nil, pages(string([]byte{byte(b), 1}), "\x00\x00"))); err != api.OK {
			t.Errorf("%d: %d", b, err)
		}
	}
	for no := range 1 << 16 {
		_, err := Undo(has2(nil, pages("J\x01", kept2(no, "x"))))
		if err == api.OK != (no < 32) || err != api.OK && err != api.ErrForm {
			t.Errorf("%d: %d", no, err)
		}
	}
}

// holdAll does writes, crashes in the midst of them at each step, is mended, crashes in the midst of that at each step, and in the midst of mending that too, and tells whether all pages are always as before, or as they were to be.
func holdAll(t *testing.T, r *draw, s api.Store, l []api.Write) {
	t.Helper()
	steps, err := holdSteps(t, s, l)
	if err != api.OK {
		t.Fatalf("Steps(%v, %v): %d", s, l, err)
	}
	before := sheetsOf(s.Data)
	after := before.with(l)
	outcomes := map[sheets]int{}
	for done, left := range eachCrash(r, s, steps) {
		undo, err := Undo(left)
		mended, again := Recover(left)
		now := sheetsOf(mended.Data)
		if err != api.OK || again != api.OK || now != before && now != after || done == len(steps) && now != after {
			t.Fatalf("%v, %v: %d steps, then %v is mended to %v, %d, %d", s, l, done, left, mended, err, again)
		}
		outcomes[now]++
		if l, err := Undo(mended); len(l) > 0 || err != api.OK {
			t.Fatalf("%v was mended, and is not: %v, %d", left, l, err)
		}
		for _, second := range eachCrash(r, left, undo) {
			twice, err := Recover(second)
			if sheetsOf(twice.Data) != now || err != api.OK {
				t.Fatalf("%v, %v: %v crashes once more to %v, and is mended to %v, %d", s, l, left, second, twice, err)
			}
			undone, _ := Undo(second)
			at, _ := Play(second, undone[:r.below(len(undone)+1)])
			if thrice, err := Recover(crashed(at, r.next(), r.next())); sheetsOf(thrice.Data) != now || err != api.OK {
				t.Fatalf("%v, %v: a third crash is mended to %v, %d", s, l, thrice, err)
			}
		}
	}
	if outcomes[before] == 0 || outcomes[after] == 0 {
		t.Errorf("%v, %v: it never came out both ways", s, l)
	}
}

// P8: small files and journals of all kinds, all choices of what lands.
func TestAllOrNothing(t *testing.T) {
	var r draw
	for _, data := range [][]string{nil, pages("a"), pages("a", "", "c", "d"), append(some(31, "z"), "last"), pages(long(256), "J\x01", "-", "\x00\x00")} {
		for _, journal := range [][]string{nil, pages("-"), pages("", "\x00\x02x", "", "\x00\x03y"), pages("-", "\x00\x00stale", "\x00\x09stale", "q", "", "\x00\x01stale"), pages("K\x02", "\x00\x20")} {
			for _, l := range [][]api.Write{
				nil, writes(write(0, "A")), writes(write(0, "")), writes(write(31, "z"), write(0, "")), writes(write(1, long(256)), write(0, "J"), write(2, "")), writes(write(3, ""), write(2, ""), write(1, "B"), write(0, "A")),
			} {
				holdAll(t, &r, has2(data, journal), l)
			}
		}
	}
}

// P8: files of any size, up to as many writes as may be.
func TestAllOrNothingDrawn(t *testing.T) {
	r := draw(11)
	for _, n := range []int{0, 1, 2, 3, 4, 5, 8, 15, 30, 31} {
		data := sheets{}.with(drawnWrites(&r, r.below(33)))
		kept := sheets{}.with(drawnWrites(&r, r.below(33)))
		kept[0] = "-"
		holdAll(t, &r, api.Store{Data: data.disk(), Journal: kept.disk()}, drawnWrites(&r, n))
	}
}

// P8: one store, many changes one behind the other; a crash comes in some, and in the midst of mending it.
func TestOneBehindTheOther(t *testing.T) {
	r := draw(5)
	var s api.Store
	var now sheets
	kept, lost := 0, 0
	for range 2000 {
		l := drawnWrites(&r, r.below(32))
		steps, err := holdSteps(t, s, l)
		if err != api.OK {
			t.Fatalf("%v, %v: %d", s, l, err)
		}
		done := len(steps)
		if r.below(3) > 0 {
			done = r.below(len(steps) + 1)
		}
		s, _ = holdPlay(t, s, steps[:done])
		for range r.below(4) {
			s = crashed(s, r.next(), r.next())
			undo, err := holdUndo(t, s)
			if err != api.OK {
				t.Fatalf("%v: %d", s, err)
			}
			s, _ = holdPlay(t, s, undo[:r.below(len(undo)+1)])
		}
		s = crashed(s, r.next(), r.next())
		s, err = Recover(s)
		switch got := sheetsOf(s.Data); {
		case err != api.OK:
			t.Fatalf("%d", err)
		case got == now.with(l):
			now = got
			kept++
		case got == now && done < len(steps):
			lost++
		default:
			t.Fatalf("it was %v, was to be %v, and is %v", now, now.with(l), got)
		}
	}
	if kept < 400 || lost < 400 {
		t.Errorf("%d were kept, %d were not", kept, lost)
	}
}

// P5 to P7, P1: drawn stores, right and wrong, hot and not.
func TestDrawn(t *testing.T) {
	r := draw(2)
	undone, stepped, played := map[api.Errno]int{}, map[api.Errno]int{}, map[api.Errno]int{}
	for range 8000 {
		s := drawnStore(&r)
		switch r.below(6) {
		case 0:
			s.Data = spoilDisk(&r, s.Data)
		case 1:
			s.Journal = spoilDisk(&r, s.Journal)
		}
		hold(t, s)
		_, err := holdUndo(t, s)
		undone[err]++
		l := drawnWrites(&r, r.below(33))
		for i := range l {
			if r.below(40) == 0 {
				l[i] = write(r.below(34)-1, long(255+r.below(3)))
			}
		}
		if r.below(2) == 0 {
			s.Journal = api.Disk{}
		}
		_, err = holdSteps(t, s, l)
		stepped[err]++
		var some []api.Op
		for range r.below(110) {
			o := api.Op{Kind: 1 + r.below(4), No: r.below(32), Text: r.text()}
			if r.below(80) == 0 {
				o = api.Op{Kind: r.below(7) - 1, No: r.below(36) - 2, Text: long(259 + r.below(3))}
			}
			some = append(some, o)
		}
		_, err = holdPlay(t, s, some)
		played[err]++
	}
	for _, err := range []api.Errno{api.OK, api.ErrForm, api.ErrState, api.ErrMany, api.ErrRange} {
		if undone[err] < 50 || stepped[err] < 50 || err != api.ErrState && played[err] < 50 {
			t.Errorf("%d: drawn too few: %v, %v, %v", err, undone, stepped, played)
		}
	}
	if stepped[api.ErrTwice] < 50 || played[api.ErrKind] < 50 {
		t.Errorf("drawn too few: %v, %v", stepped, played)
	}
}

// roomy answers a disk with spare room behind its lists, filled.
func roomy(d api.Disk) api.Disk {
	p := slices.Concat(d.Pages, pages("room", "more"))
	w := slices.Concat(d.Waiting, writes(write(7, "room"), write(99, "more")))
	return api.Disk{Pages: p[:len(d.Pages)], Waiting: w[:len(d.Waiting)]}
}

// entire tells all that a disk has, its spare room too.
func entire(d api.Disk) api.Disk {
	return api.Disk{Pages: slices.Clone(d.Pages[:cap(d.Pages)]), Waiting: slices.Clone(d.Waiting[:cap(d.Waiting)])}
}

func entireBoth(s api.Store) api.Store {
	return api.Store{Data: entire(s.Data), Journal: entire(s.Journal)}
}

// scribble writes all over a disk, its spare room too.
func scribble(d api.Disk) {
	for i := range d.Pages[:cap(d.Pages)] {
		d.Pages[:cap(d.Pages)][i] = "scribble"
	}
	for i := range d.Waiting[:cap(d.Waiting)] {
		d.Waiting[:cap(d.Waiting)][i] = write(-5, "scribble")
	}
}

// own writes all over one disk of a store, and tells whether the other one stays as it was.
func own(s api.Store) bool {
	before := entire(s.Journal)
	scribble(s.Data)
	isOwn := sameDisk(entire(s.Journal), before)
	scribble(s.Journal)
	return isOwn
}

// P2: what is handed in is only read, the room behind it too, and what is answered is the caller's, even if both disks that were handed in are one.
func TestOnlyRead(t *testing.T) {
	r := draw(3)
	for i := range 100 {
		s := drawnStore(&r)
		s.Data, s.Journal = roomy(s.Data), roomy(s.Journal)
		switch i % 4 {
		case 1:
			s.Journal = s.Data
		case 2:
			s.Data = roomy(spoilDisk(&r, s.Data))
		}
		before := entireBoth(s)
		hold(t, s)
		for _, l := range [][]api.Op{nil, ops(syncData()), ops(syncJournal()), ops(toData(1, "x")), ops(toJournal(1, "x")), ops(toData(1, "x"), toJournal(1, "y"), syncData(), syncJournal())} {
			handed := append(slices.Clone(l), toData(9, "room"))
			if x, _ := Play(s, handed[:len(l)]); !own(x) || handed[len(l)] != toData(9, "room") {
				t.Errorf("Play(%v, %v): memory is shared", s, l)
			}
		}
		if x, _ := Recover(s); !own(x) {
			t.Errorf("Recover(%v): memory is shared", s)
		}
		if !same(entireBoth(s), before) {
			t.Fatalf("%v has become %v", before, entireBoth(s))
		}
		hold(t, s)
	}
}

// P2: writes and ops that are handed in are only read, and a later change of them is not seen.
func TestListsAreOnlyRead(t *testing.T) {
	s := has2(pages("a", "b"), nil)
	handed := writes(write(1, "B"), write(0, "A"), write(5, "room"))
	steps, _ := Steps(s, handed[:2])
	other, _ := Steps(s, handed[:2])
	for i := range other[:cap(other)] {
		other[:cap(other)][i] = api.Op{Kind: -1}
	}
	if !slices.Equal(handed, writes(write(1, "B"), write(0, "A"), write(5, "room"))) {
		t.Errorf("%v", handed)
	}
	handed[0], s.Data.Pages[0] = write(7, "changed"), "changed"
	if want, _ := modelSteps(has2(pages("a", "b"), nil), writes(write(1, "B"), write(0, "A"))); !slices.Equal(steps, want) {
		t.Errorf("a change is seen in what was answered: %v", steps)
	}
	x, _ := Play(api.Store{}, steps[:3])
	steps[0] = toJournal(1, "changed")
	if !sameDisk(x.Journal, lies("", "\x00\x01b", "\x00\x00a")) {
		t.Errorf("a change is seen in what was answered: %v", x)
	}
}

// P3: whatever was asked ahead of it, and whoever asks at the same time.
func TestNothingIsKept(t *testing.T) {
	var hands sync.WaitGroup
	shared := drawnStore(new(draw))
	for seed := range 4 {
		hands.Go(func() {
			r := draw(40 + seed)
			for range 200 {
				s := drawnStore(&r)
				hold(t, s)
				hold(t, shared)
				hold(t, s)
			}
		})
	}
	hands.Wait()
}

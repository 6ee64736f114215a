package disk

import (
	"math"
	"slices"
	"sync"
	"testing"

	"starling/api"
)

// O1, O2: limits and one beyond them, and each error where its order has it. Whatever is wrong with a disk, each call tells it first.
func TestCheck(t *testing.T) {
	far, wide := write(32, ""), write(0, long(261))
	for i, c := range []struct {
		d    api.Disk
		want api.Errno
	}{
		{api.Disk{}, 0}, {disk(pages(), writes()), 0}, {disk(pages("a"), nil), 0}, {disk(pages("\x00"), nil), 0}, {disk(pages("a", "", "", "d"), nil), 0}, {disk(pages("", "", "c"), nil), 0},
		{disk(full(32, "z"), nil), 0}, {disk(full(33, "z"), nil), api.ErrMany}, {disk(full(33, ""), nil), api.ErrMany}, {disk(full(100, long(300)), nil), api.ErrMany}, {disk(append(full(31, ""), "z"), nil), 0}, {disk(append(full(32, ""), "z"), nil), api.ErrMany},
		{disk(full(32, long(260)), nil), 0}, {disk(pages(long(260)), nil), 0}, {disk(pages(long(261)), nil), api.ErrMany}, {disk(pages(long(261), "a"), nil), api.ErrMany}, {disk(pages("a", long(261), "a"), nil), api.ErrMany}, {disk(append(full(31, "z"), long(261)), nil), api.ErrMany},
		{disk(pages(""), nil), api.ErrForm}, {disk(pages("a", ""), nil), api.ErrForm}, {disk(full(32, ""), nil), api.ErrForm}, {disk(append(full(31, "z"), ""), nil), api.ErrForm},
		{disk(pages(long(261), ""), nil), api.ErrMany}, {disk(append(full(32, "z"), ""), nil), api.ErrMany},
		{disk(nil, writes(write(0, ""))), 0}, {disk(nil, writes(write(31, long(260)))), 0}, {disk(pages("a"), writes(write(0, ""), write(0, ""))), 0},
		{disk(nil, some(48, write(0, "a"))), 0}, {disk(nil, some(49, write(0, "a"))), api.ErrMany}, {disk(nil, some(48, write(31, long(260)))), 0}, {disk(nil, some(49, far)), api.ErrMany}, {disk(nil, some(48, far)), api.ErrRange}, {disk(nil, some(500, far)), api.ErrMany},
		{disk(pages(""), some(49, far)), api.ErrForm}, {disk(pages(""), writes(far)), api.ErrForm}, {disk(pages(""), writes(wide)), api.ErrForm}, {disk(pages(long(261)), writes(far)), api.ErrMany}, {disk(full(33, "z"), writes(far)), api.ErrMany},
		{disk(nil, writes(far)), api.ErrRange}, {disk(nil, writes(write(-1, ""))), api.ErrRange}, {disk(nil, writes(write(math.MaxInt, "a"))), api.ErrRange}, {disk(nil, writes(write(math.MinInt, "a"))), api.ErrRange}, {disk(nil, writes(write(1<<32, "a"))), api.ErrRange},
		{disk(nil, writes(wide)), api.ErrMany}, {disk(nil, writes(write(31, long(1<<16)))), api.ErrMany}, {disk(nil, writes(write(32, long(261)))), api.ErrRange}, {disk(nil, writes(write(-1, long(261)))), api.ErrRange},
		{disk(nil, writes(wide, far)), api.ErrMany}, {disk(nil, writes(far, wide)), api.ErrRange}, {disk(nil, writes(write(0, "a"), wide, far)), api.ErrMany}, {disk(nil, writes(write(0, "a"), far, wide)), api.ErrRange}, {disk(nil, append(some(47, write(0, "a")), far)), api.ErrRange}, {disk(nil, append(some(47, write(0, "a")), wide)), api.ErrMany},
	} {
		if err := hold(t, c.d); err != c.want {
			t.Errorf("%d: %d; want %d", i, err, c.want)
		}
	}
}

// O2: what is read, written out.
func TestRead(t *testing.T) {
	d := disk(pages("a", "", "c"), writes(write(0, "A"), write(3, "d"), write(0, "AA"), write(2, ""), write(31, "last"), write(3, "D")))
	for no, want := range map[int]string{0: "AA", 1: "", 2: "", 3: "D", 4: "", 30: "", 31: "last"} {
		if s, err := Read(d, no); s != want || err != api.OK {
			t.Errorf("%d: %q, %d; want %q", no, s, err, want)
		}
	}
	for _, no := range []int{-1, 32, 256, math.MaxInt, math.MinInt} {
		if s, err := Read(d, no); s != "" || err != api.ErrRange {
			t.Errorf("%d: %q, %d", no, s, err)
		}
	}
	hold(t, d)
}

// O2: errors of Write in their order, with room and without.
func TestWriteErrors(t *testing.T) {
	last, none := disk(pages("a"), some(47, write(1, "b"))), disk(pages("a"), some(48, write(1, "b")))
	wrong := disk(pages("a", ""), none.Waiting)
	for i, c := range []struct {
		d    api.Disk
		no   int
		text string
		want api.Errno
	}{
		{api.Disk{}, 0, "", 0}, {api.Disk{}, 31, long(260), 0}, {api.Disk{}, 31, long(261), api.ErrMany}, {api.Disk{}, 32, long(260), api.ErrRange}, {api.Disk{}, -1, "", api.ErrRange}, {api.Disk{}, 32, long(261), api.ErrRange}, {api.Disk{}, math.MinInt, long(261), api.ErrRange},
		{last, 5, "x", 0}, {last, 5, long(261), api.ErrMany}, {last, 32, "x", api.ErrRange}, {none, 5, "x", api.ErrMany}, {none, 5, "", api.ErrMany}, {none, 5, long(261), api.ErrMany}, {none, 32, "x", api.ErrRange}, {none, -1, long(261), api.ErrRange},
		{wrong, 5, "x", api.ErrForm}, {wrong, 32, "x", api.ErrForm}, {wrong, 5, long(261), api.ErrForm},
	} {
		if _, err := holdWrite(t, c.d, c.no, c.text); err != c.want {
			t.Errorf("%d: %d; want %d", i, err, c.want)
		}
	}
}

// O2: what becomes of what waits, written out: blank pages behind the last one are none.
func TestDone(t *testing.T) {
	d := disk(pages("a", "", "c"), writes(write(0, "A"), write(2, ""), write(0, "B"), write(4, "e"), write(4, "")))
	for _, c := range []struct {
		landed uint64
		want   []string
	}{
		{0, pages("a", "", "c")}, {1, pages("A", "", "c")}, {2, pages("a")}, {4, pages("B", "", "c")}, {5, pages("B", "", "c")}, {8, pages("a", "", "c", "", "e")}, {16, pages("a", "", "c")}, {24, pages("a", "", "c")}, {10, pages("a", "", "", "", "e")}, {31, pages("B")}, {1 << 5, pages("a", "", "c")}, {^uint64(31), pages("a", "", "c")}, {math.MaxUint64, pages("B")},
	} {
		if x, err := holdCrash(t, d, c.landed); !same(x, disk(c.want, nil)) || err != api.OK {
			t.Errorf("%b: %v, %d; want %v", c.landed, x, err, c.want)
		}
	}
	if x, err := holdSync(t, d); !same(x, disk(pages("B"), nil)) || err != api.OK {
		t.Errorf("%v, %d", x, err)
	}
	if x, err := holdSync(t, disk(pages("a", "b"), writes(write(1, ""), write(0, "")))); !isZero(x) || err != api.OK {
		t.Errorf("%v, %d", x, err)
	}
	if x, err := holdSync(t, disk(pages("", "", "c"), writes(write(2, "")))); !isZero(x) || err != api.OK {
		t.Errorf("%v, %d", x, err)
	}
}

// O2: each bit stands for its own write, up to the last one that may wait; those above stand for none.
func TestEachBit(t *testing.T) {
	var d api.Disk
	for i := range 48 {
		d, _ = holdWrite(t, d, i%32, string([]byte{'w', byte(i)}))
	}
	hold(t, d)
	for bit := range 64 {
		x, err := holdCrash(t, d, 1<<bit)
		if bit >= 48 && !isZero(x) || bit < 48 && (len(x.Pages) != bit%32+1 || x.Pages[bit%32] != string([]byte{'w', byte(bit)})) || err != api.OK {
			t.Errorf("%d: %v, %d", bit, x, err)
		}
		holdCrash(t, d, ^uint64(1<<bit))
		holdCrash(t, d, 1<<bit-1)
	}
}

// O2: all choices of what lands, of all writes of a kind to two pages.
func TestAllChoices(t *testing.T) {
	kinds := writes(write(0, ""), write(0, "x"), write(1, ""), write(1, "y"))
	for _, p := range [][]string{nil, pages("a"), pages("", "b"), pages("a", "b", "c")} {
		for n := range 5 {
			for which := range 1 << (2 * n) {
				d := disk(p, nil)
				for i := range n {
					d.Waiting = append(d.Waiting, kinds[which>>(2*i)&3])
				}
				holdSync(t, d)
				for landed := range uint64(1) << (n + 1) {
					holdCrash(t, d, landed)
				}
			}
		}
	}
}

// O3: pages are written, synced and crashed in any order: behind a crash a page has what was synced last or something that was written behind that; what was synced and not written since, it has for good.
func TestForGood(t *testing.T) {
	r := draw(7)
	for range 300 {
		var d api.Disk
		var may [32][]string
		settle := func() {
			for no := range may {
				s, err := Read(d, no)
				if !slices.Contains(may[no], s) && (s != "" || len(may[no]) > 0) || err != api.OK {
					t.Fatalf("page %d is %q, %d; may be %q", no, s, err, may[no])
				}
				may[no] = pages(s)
			}
		}
		settle()
		for range 60 {
			switch r.below(12) {
			case 0:
				for no := range may {
					may[no] = may[no][len(may[no])-1:]
				}
				d, _ = holdSync(t, d)
				settle()
				if x, err := holdCrash(t, d, r.next()); !same(x, d) || err != api.OK {
					t.Fatalf("%v was synced, and is %v, %d", d, x, err)
				}
			case 1:
				d, _ = holdCrash(t, d, r.next())
				settle()
			default:
				no, s := r.below(32), r.text()
				x, err := holdWrite(t, d, no, s)
				if err == api.OK {
					d = x
					may[no] = append(may[no], s)
				}
			}
		}
	}
}

// O1, O2, P1: drawn disks, right and wrong.
func TestDrawn(t *testing.T) {
	r := draw(1)
	counts := map[api.Errno]int{}
	for range 3000 {
		d := drawnDisk(&r, 48)
		if hold(t, d) != api.OK {
			t.Fatalf("%v", d)
		}
		holdCrash(t, d, r.next())
		d = spoil(&r, d)
		if r.below(2) == 0 {
			d = spoil(&r, d)
		}
		counts[hold(t, d)]++
	}
	for _, err := range []api.Errno{api.OK, api.ErrMany, api.ErrForm, api.ErrRange} {
		if counts[err] < 200 {
			t.Errorf("drawn too few of a kind: %v", counts)
		}
	}
}

// roomy answers a disk with spare room behind its lists, filled.
func roomy(d api.Disk) api.Disk {
	p := slices.Concat(d.Pages, pages("room", "more"))
	w := slices.Concat(d.Waiting, writes(write(7, "room"), write(99, "more")))
	return disk(p[:len(d.Pages)], w[:len(d.Waiting)])
}

// entire tells all that a disk has, its spare room too.
func entire(d api.Disk) api.Disk {
	return disk(slices.Clone(d.Pages[:cap(d.Pages)]), slices.Clone(d.Waiting[:cap(d.Waiting)]))
}

// scribble writes all over a disk, its spare room too.
func scribble(d api.Disk) {
	for i := range d.Pages[:cap(d.Pages)] {
		d.Pages[:cap(d.Pages)][i] = "scribble"
	}
	for i := range d.Waiting[:cap(d.Waiting)] {
		d.Waiting[:cap(d.Waiting)][i] = write(-5, "scribble")
	}
}

// P2: what is handed in is only read, the room behind it too, and what is answered is the caller's.
func TestOnlyRead(t *testing.T) {
	r := draw(3)
	for i := range 60 {
		d := roomy(drawnDisk(&r, i%49))
		if i%4 == 3 {
			d = roomy(spoil(&r, d))
		}
		before := entire(d)
		hold(t, d)
		x, _ := Write(d, 3, "new")
		y, _ := Write(d, 4, "other")
		s, _ := Sync(d)
		c, _ := Crash(d, r.next())
		for _, answer := range []api.Disk{x, s, c} {
			scribble(answer)
		}
		if n := len(y.Waiting); n > 0 && !same(y, disk(d.Pages, append(slices.Clone(d.Waiting), write(4, "other")))) {
			t.Errorf("two answers share memory: %v", y)
		}
		if !same(entire(d), before) {
			t.Fatalf("%v has become %v", before, entire(d))
		}
		hold(t, d)
	}
	d := disk(pages("a"), writes(write(0, "b")))
	x, _ := Write(d, 1, "c")
	s, _ := Sync(d)
	scribble(d)
	if !same(x, disk(pages("a"), writes(write(0, "b"), write(1, "c")))) || !same(s, disk(pages("b"), nil)) {
		t.Errorf("a change is seen in what was answered: %v, %v", x, s)
	}
}

// P3: whatever was asked ahead of it, and whoever asks at the same time.
func TestNothingIsKept(t *testing.T) {
	var hands sync.WaitGroup
	shared := drawnDisk(new(draw), 48)
	for seed := range 4 {
		hands.Go(func() {
			r := draw(40 + seed)
			for range 100 {
				d := spoil(&r, drawnDisk(&r, 48))
				hold(t, d)
				hold(t, shared)
				hold(t, d)
			}
		})
	}
	hands.Wait()
}

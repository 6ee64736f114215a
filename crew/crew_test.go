package crew

import (
	"math"
	"reflect"
	"slices"
	"strings"
	"sync"
	"testing"

	"starling/api"
	"starling/expr"
)

var wrongWorkers = []int{math.MinInt, -8, -1, 0, 9, 10, 256 + 1, 1 << 32, math.MaxInt}

// Y1: no page, one and many, all of them right, with each number of workers.
func TestOpen(t *testing.T) {
	for n := range 33 {
		pages := sealed(t, n)
		for workers := 1; workers <= 8; workers++ {
			opened, errs, err := open(t, pages, workers)
			if err != api.OK || len(opened) != n || len(errs) != n {
				t.Fatalf("%d, %d: %d pages, %d errors, %d", n, workers, len(opened), len(errs), err)
			}
			for no, p := range opened {
				if p != right(no) || errs[no] != api.OK {
					t.Errorf("%d, %d: %v, %d; want %v", no, workers, p, errs[no], right(no))
				}
			}
		}
	}
}

// Y1: each kind of damage at each place, the first and the last one too, is told there, and nowhere else.
func TestOpenDamaged(t *testing.T) {
	for _, n := range []int{1, 2, 7, 8, 9, 31, 32} {
		for at := range n {
			for i, f := range faults() {
				pages := sealed(t, n)
				pages[at] = f.damage(pages[at])
				for workers := 1; workers <= 8; workers++ {
					opened, errs, err := open(t, pages, workers)
					if err != api.OK || errs[at] != f.err || opened[at] != (api.Page{}) {
						t.Errorf("%d of %d, %d: %v, %d, %d; want %d", at, n, i, opened[at], errs[at], err, f.err)
					}
				}
			}
		}
	}
}

// Y1: all choices of damaged pages of a small file, and all places that pages may have changed with one another.
func TestOpenAllChoices(t *testing.T) {
	all := faults()
	for choice := range 1 << 7 {
		pages := sealed(t, 7)
		for no := range pages {
			if choice>>no&1 == 1 {
				pages[no] = all[(choice+no)%len(all)].damage(pages[no])
			}
		}
		for workers := 1; workers <= 8; workers++ {
			_, errs, _ := open(t, pages, workers)
			for no, err := range errs {
				if (err != api.OK) != (choice>>no&1 == 1) {
					t.Errorf("%b: %d of page %d", choice, err, no)
				}
			}
		}
	}
	for a := range 9 {
		for b := range a {
			pages := sealed(t, 9)
			pages[a], pages[b] = pages[b], pages[a]
			for workers := 1; workers <= 8; workers++ {
				if _, errs, _ := open(t, pages, workers); errs[a] != api.ErrSum || errs[b] != api.ErrSum {
					t.Errorf("%d and %d: %v", a, b, errs)
				}
			}
		}
	}
}

// Y1: too many pages come ahead of a wrong number of workers; with an error there are no lists.
func TestOpenErrors(t *testing.T) {
	for _, n := range []int{0, 1, 31, 32, 33, 34, 64, 1 << 16} {
		for _, workers := range append([]int{1, 2, 7, 8}, wrongWorkers...) {
			want := api.OK
			switch {
			case n > 32:
				want = api.ErrMany
			case slices.Contains(wrongWorkers, workers):
				want = api.ErrRange
			}
			opened, errs, err := open(t, make([]string, n), workers)
			if err != want || err != api.OK && (opened != nil || errs != nil) {
				t.Errorf("%d, %d: %v, %v, %d; want %d", n, workers, opened, errs, err, want)
			}
		}
	}
}

// Y1: sums that are written out; no text, one and many, and too many.
func TestSums(t *testing.T) {
	got, err := sums(t, []string{"", "s", "ss", "123456789", strings.Repeat("\x00", 32), strings.Repeat("\xff", 32)})
	if want := []uint32{0, 0x30b5f4a8, 0x1817ac35, 0xe3069283, 0x8a9136aa, 0x62a8ab43}; err != api.OK || !slices.Equal(got, want) {
		t.Errorf("%x, %d; want %x", got, err, want)
	}
	d := draw(1)
	for n := range 41 {
		var l []string
		for range n {
			l = append(l, d.text(d.below(40)))
		}
		if got, err := sums(t, l); err != api.OK || len(got) != n {
			t.Errorf("%d: %x, %d", n, got, err)
		}
		slices.Reverse(l)
		sums(t, l)
	}
	for _, n := range []int{41, 42, 80, 1 << 16} {
		if got, err := sums(t, make([]string, n)); got != nil || err != api.ErrMany {
			t.Errorf("%d: %x, %d", n, got, err)
		}
	}
	sums(t, slices.Repeat([]string{""}, 40))
	sums(t, []string{d.text(1 << 16), "", d.text(1<<16 + 1), "wren"})
}

// Y2: what is kept, in words, of no row, one and many, with each number of workers.
func TestFilter(t *testing.T) {
	cols := []string{"a", "b"}
	for s, keep := range map[string]func(i int) bool{
		"1": func(i int) bool { return true }, "0": func(i int) bool { return false }, "null": func(i int) bool { return false }, "a": func(i int) bool { return i != 0 }, "a > 3": func(i int) bool { return i > 3 }, "b = 0": func(i int) bool { return i%4 == 0 }, "a = 0": func(i int) bool { return i == 0 }, "a = 39": func(i int) bool { return i == 39 }, "not b in (1, 2)": func(i int) bool { return i%4 == 0 || i%4 == 3 }, "a between 7 and 9 or a > 38": func(i int) bool { return i >= 7 && i <= 9 || i == 39 }, "a > b": func(i int) bool { return i > 3 }, "a < 0": func(i int) bool { return false }, "b + null": func(i int) bool { return false },
	} {
		for n := range 41 {
			var want rows
			for i, r := range numbered(n) {
				if keep(i) {
					want = append(want, r)
				}
			}
			for workers := 1; workers <= 8; workers++ {
				got, err := filter(t, numbered(n), cols, parsed(t, s), workers)
				if err != api.OK || !slices.EqualFunc(got, want, slices.Equal) {
					t.Errorf("%s of %d, %d: %v, %d; want %v", s, n, workers, got, err, want)
				}
			}
		}
	}
}

// Y2: rows without values, of as many as may be, the same one again and again, and two columns of one name.
func TestFilterWidths(t *testing.T) {
	one := parsed(t, "1")
	wide := slices.Repeat(rows{{null, num(math.MinInt64), num(math.MaxInt64), text(""), text(long(16)), blob(""), blob(long(16)), num(-1)}}, 40)
	for workers := 1; workers <= 8; workers++ {
		for _, l := range []rows{nil, {}, {nil}, {{}, nil, {}}, list(40, 0), list(1, 8), list(40, 8), wide} {
			cols := make([]string, len(slices.Concat(l[:min(1, len(l))]...)))
			if got, err := filter(t, l, cols, one, workers); err != api.OK || len(got) != len(l) {
				t.Errorf("%v, %d: %v, %d", l, workers, got, err)
			}
		}
		if got, err := filter(t, numbered(8), []string{"a", "a"}, parsed(t, "a > 3"), workers); err != api.OK || len(got) != 4 {
			t.Errorf("%d: %v, %d", workers, got, err)
		}
	}
}

// Y2: the number of workers first, then the list, then the expression, then the rows.
func TestFilterErrors(t *testing.T) {
	wrong := api.Value{Kind: 9}
	cols, one := []string{"a", "b"}, parsed(t, "1")
	for i, c := range []struct {
		l    rows
		cols []string
		e    []api.Node
		want api.Errno
	}{
		// The list.
		{list(41, 2), cols, one, api.ErrMany}, {make(rows, 41), cols, nil, api.ErrMany}, {list(41, 9), cols, []api.Node{{Op: 99}}, api.ErrMany}, {list(1, 9), cols, nil, api.ErrMany}, {append(list(39, 2), make([]api.Value, 9)), nil, parsed(t, "z"), api.ErrMany}, {append(list(39, 2), nil), nil, nil, api.ErrForm}, {append(list(20, 2), []api.Value{null}, []api.Value{wrong, wrong}), cols, []api.Node{{Op: 99}}, api.ErrForm}, {append(list(39, 2), []api.Value{null, wrong}), cols, nil, api.ErrKind}, {append(list(30, 1), []api.Value{text(long(17))}), cols, []api.Node{{Op: 99}}, api.ErrMany}, {append(list(8, 1), []api.Value{{N: 1}}, []api.Value{wrong}), cols, make([]api.Node, 61), api.ErrForm}, {append(list(8, 1), []api.Value{wrong}, []api.Value{{N: 1}}), cols, make([]api.Node, 61), api.ErrKind}, {append(rows{{num(1), num(0)}}, append(list(38, 2), []api.Value{wrong, null})...), cols, parsed(t, "a / b"), api.ErrKind}, {append(rows{{num(1), num(0)}}, append(list(38, 2), nil)...), cols, parsed(t, "a / b"), api.ErrForm}, {append(list(20, 2), list(20, 3)...), cols, one, api.ErrForm}, {append(list(5, 2), list(35, 0)...), cols, one, api.ErrForm},
		// The expression, of whatever rows and columns, and of none.
		{nil, cols, nil, api.ErrForm}, {numbered(40), cols, nil, api.ErrForm}, {numbered(40), nil, nil, api.ErrForm}, {nil, nil, make([]api.Node, 61), api.ErrMany}, {numbered(1), make([]string, 9), []api.Node{{Op: 99}}, api.ErrKind}, {nil, nil, []api.Node{{Op: api.OpLit, V: num(-1)}}, api.ErrRange}, {numbered(3), nil, []api.Node{{Op: api.OpLit, V: num(-1)}}, api.ErrRange}, {numbered(9), nil, slices.Concat(one, slices.Repeat([]api.Node{{Op: api.OpNeg, Kids: 1}}, 12)), api.ErrDeep}, {rows{{num(1), num(0)}}, cols, append(parsed(t, "a / b"), api.Node{Op: api.OpAnd, Kids: 2}), api.ErrForm},
		// The columns, of which nothing is told where there are no rows.
		{nil, make([]string, 9), one, api.OK}, {rows{}, nil, one, api.OK}, {nil, nil, parsed(t, "z"), api.OK}, {nil, nil, parsed(t, "1 / 0"), api.OK}, {numbered(1), make([]string, 9), one, api.ErrMany}, {numbered(40), make([]string, 9), parsed(t, "z"), api.ErrMany}, {numbered(1), nil, one, api.ErrForm}, {numbered(40), cols[:1], parsed(t, "1 / 0"), api.ErrForm}, {list(2, 0), cols, one, api.ErrForm},
		// The rows.
		{numbered(1), cols, parsed(t, "z"), api.ErrNone}, {numbered(40), cols, parsed(t, "a and z"), api.ErrNone}, {numbered(40), cols, parsed(t, "'x'"), api.ErrKind}, {numbered(40), cols, parsed(t, "a / b > 0"), api.ErrZero}, {numbered(40), cols, parsed(t, "a / (a - 39) > 0"), api.ErrZero}, {numbered(39), cols, parsed(t, "a / (a - 39) > 0"), api.OK}, {numbered(40), cols, parsed(t, "9223372036854775769 + a"), api.ErrOver}, {numbered(39), cols, parsed(t, "9223372036854775769 + a"), api.OK}, {numbered(40), cols, parsed(t, "a like '%'"), api.ErrKind}, {numbered(40), cols, parsed(t, `'' like '\'`), api.ErrForm},
	} {
		for workers := 1; workers <= 8; workers++ {
			if got, err := filter(t, c.l, c.cols, c.e, workers); err != c.want || err != api.OK && got != nil {
				t.Errorf("%d, %d: %v, %d; want %d", i, workers, got, err, c.want)
			}
		}
		for _, workers := range wrongWorkers {
			if got, err := filter(t, c.l, c.cols, c.e, workers); err != api.ErrRange || got != nil {
				t.Errorf("%d, %d: %v, %d", i, workers, got, err)
			}
		}
	}
}

// Y2: of rows of which several have an error, each another one, the first one's is told, whoever has which.
func TestFilterFirstError(t *testing.T) {
	wrong := map[api.Errno][]api.Value{api.ErrZero: {num(1), num(0), null}, api.ErrOver: {num(math.MinInt64), num(-1), null}, api.ErrKind: {text("x"), num(1), null}, api.ErrForm: {num(1), num(1), text(`\`)}}
	e, cols := parsed(t, "a / b > 0 or 'wren' like p"), []string{"a", "b", "p"}
	for _, n := range []int{2, 9, 16, 40} {
		for first := range n - 1 {
			for err, r := range wrong {
				for other, behind := range wrong {
					l := slices.Repeat(rows{{num(4), num(2), text("w%")}}, n)
					last := first + 1 + (first*7+int(other)*5)%(n-1-first)
					for i := first + 1; i <= last; i++ {
						l[i] = behind
					}
					l[first] = r
					for workers := 1; workers <= 8; workers++ {
						if got, told := filter(t, l, cols, e, workers); told != err || got != nil {
							t.Errorf("%d ahead of %d to %d, of %d rows, %d: %v, %d", first, first+1, last, n, workers, got, told)
						}
					}
				}
			}
		}
	}
}

// drawnPages has right pages, damaged ones and others.
func drawnPages(t *testing.T, d *draw) []string {
	all := faults()
	pages := sealed(t, min(d.below(36), 32))
	for no, s := range pages {
		switch d.below(6) {
		case 0:
			pages[no] = all[d.below(len(all))].damage(s)
		case 1:
			pages[no] = d.text(d.below(300))
		case 2:
			pages[no] = pages[d.below(no+1)]
		}
	}
	if len(pages) == 32 && d.below(2) == 0 {
		pages = append(pages, "one too many")
	}
	return pages
}

// drawnRows has few errors for expressions, so that now and then no row has any.
func drawnRows(d *draw) rows {
	l := list(d.below(42), 1+d.below(50)/49)
	for _, r := range l {
		r[0] = num(int64(d.below(60)) - 1)
		if d.below(90) == 0 {
			r[0] = []api.Value{null, num(math.MinInt64), num(math.MaxInt64), text("a"), blob("\x00"), {Kind: 7}, text(long(17))}[d.below(7)]
		}
	}
	if len(l) > 0 && d.below(40) == 0 {
		l[d.below(len(l))] = nil
	}
	return l
}

func drawnExprs(t *testing.T) [][]api.Node {
	es := [][]api.Node{nil, {{Op: 99}}}
	for _, s := range []string{"1", "0", "a", "z", "a > 20", "a % 3 = 1", "10 / a > 0", "a / (a - 7) >= 1", "- a", "a + 1 > 9", "a like 'a'", "a in (1, 2, 3, null)", "not a between 5 and 30", "a is null", "null", "'x'"} {
		es = append(es, parsed(t, s))
	}
	return es
}

// Y1 to Y3: drawn pages, texts and rows: the same answer with each number of workers, each time.
func TestDrawn(t *testing.T) {
	d := draw(2)
	es := drawnExprs(t)
	counts := map[api.Errno]int{}
	for range 1500 {
		pages, l, e := drawnPages(t, &d), drawnRows(&d), es[d.below(len(es))]
		for workers := -1; workers <= 10; workers++ {
			open(t, pages, workers)
			_, err := filter(t, l, []string{"a"}, e, workers)
			counts[err]++
		}
		sums(t, pages)
	}
	for _, err := range []api.Errno{api.OK, api.ErrForm, api.ErrMany, api.ErrRange, api.ErrNone, api.ErrKind, api.ErrOver, api.ErrZero} {
		if counts[err] < 8 {
			t.Errorf("drawn too few of a kind: %v", counts)
		}
	}
}

// P2: what is handed in stays what it was, the room behind its lists too; what is answered is new memory, and a later change is not seen in it.
func TestOnlyRead(t *testing.T) {
	pages := roomy(sealed(t, 11), "room")
	pages[3], pages[10] = "", "x"
	l, cols := roomyRows(numbered(11)), roomy([]string{"a", "b"}, "room")
	once := roomy([]api.Value{num(7), num(8)}, num(9))
	for workers := 1; workers <= 8; workers++ {
		for _, s := range []string{"1", "a > 3", "b = 0", "a / b", "z", "0"} {
			for _, list := range []rows{l, slices.Repeat(rows{once}, 9), {}} {
				e := roomy(parsed(t, s), api.Node{Op: 99})
				was := entirely(list, cols, e)
				got, err := filter(t, list, cols, e, workers)
				again, _ := Filter(list, cols, e, workers)
				if entirely(list, cols, e) != was || shared(got, list, cols, e, again) {
					t.Fatalf("%s, %d: %s has become %s, or memory is shared", s, workers, was, entirely(list, cols, e))
				}
				handed := roomyRows(list)
				got, _ = Filter(handed, cols, e, workers)
				scribble(reflect.ValueOf(handed))
				scribble(reflect.ValueOf(again))
				if want, _ := modelFilter(list, cols, e, workers); err == api.OK && !slices.EqualFunc(got, want, slices.Equal) {
					t.Fatalf("%s, %d: a change is seen in what was answered", s, workers)
				}
			}
		}
		was := entirely(pages)
		opened, errs, _ := open(t, pages, workers)
		reckoned, _ := sums(t, pages)
		againOpened, againErrs, _ := Open(pages, workers)
		againReckoned, _ := Sums(pages)
		if entirely(pages) != was || shared(opened, pages, againOpened) || shared(errs, againErrs) || shared(reckoned, againReckoned) {
			t.Fatalf("%d: %s has become %s, or memory is shared", workers, was, entirely(pages))
		}
		handed := slices.Clone(pages)
		opened, errs, _ = Open(handed, workers)
		reckoned, _ = Sums(handed)
		for _, x := range []any{handed, againOpened, againErrs, againReckoned} {
			scribble(reflect.ValueOf(x))
		}
		wantOpened, wantErrs, _ := modelOpen(pages, workers)
		if want, _ := modelSums(pages); !slices.Equal(opened, wantOpened) || !slices.Equal(errs, wantErrs) || !slices.Equal(reckoned, want) {
			t.Fatalf("%d: a change is seen in what was answered", workers)
		}
	}
}

// P2: empty lists may be handed in either way.
func TestEmptyLists(t *testing.T) {
	for workers := 1; workers <= 8; workers++ {
		for _, pages := range [][]string{nil, {}} {
			if opened, errs, err := open(t, pages, workers); len(opened) != 0 || len(errs) != 0 || err != api.OK {
				t.Errorf("%v, %v, %d", opened, errs, err)
			}
			if got, err := sums(t, pages); len(got) != 0 || err != api.OK {
				t.Errorf("%v, %d", got, err)
			}
			for _, l := range []rows{nil, {}} {
				if got, err := filter(t, l, pages, parsed(t, "1"), workers); len(got) != 0 || err != api.OK {
					t.Errorf("%v, %d", got, err)
				}
			}
		}
		for _, e := range [][]api.Node{nil, {}} {
			if got, err := filter(t, numbered(3), nil, e, workers); got != nil || err != api.ErrForm || err != expr.Check(e) {
				t.Errorf("%v, %d", got, err)
			}
		}
	}
}

// P1, P3: whatever was asked ahead of it, and whoever asks at the same time.
func TestNothingIsKept(t *testing.T) {
	es := drawnExprs(t)
	var hands sync.WaitGroup
	for seed := range 4 {
		hands.Go(func() {
			d := draw(90 + seed)
			for range 300 {
				pages, l, e, workers := drawnPages(t, &d), drawnRows(&d), es[d.below(len(es))], d.below(10)
				for range 2 {
					open(t, pages, workers)
					sums(t, pages)
					filter(t, l, []string{"a"}, e, workers)
				}
			}
		})
	}
	hands.Wait()
}

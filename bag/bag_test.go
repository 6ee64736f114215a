package bag

import (
	"math"
	"slices"
	"sync"
	"testing"

	"starling/api"
	"starling/expr"
)

// asked: a call with what it is handed, as it tells and as the model does.
type asked struct {
	name       string
	told, want func(l rows) (rows, api.Errno)
}

func filtered(cols []string, e []api.Node) asked {
	return asked{"Filter", func(l rows) (rows, api.Errno) { return Filter(l, cols, e) }, func(l rows) (rows, api.Errno) { return modelFilter(l, cols, e) }}
}

func projected(cols []string, es [][]api.Node) asked {
	return asked{"Project", func(l rows) (rows, api.Errno) { return Project(l, cols, es) }, func(l rows) (rows, api.Errno) { return modelProject(l, cols, es) }}
}

func sorted(keys []api.Key) asked {
	return asked{"Sort", func(l rows) (rows, api.Errno) { return Sort(l, keys) }, func(l rows) (rows, api.Errno) { return modelSort(l, keys) }}
}

func distinct() asked { return asked{"Distinct", Distinct, modelDistinct} }

func limited(skip, most int) asked {
	return asked{"Limit", func(l rows) (rows, api.Errno) { return Limit(l, skip, most) }, func(l rows) (rows, api.Errno) { return modelLimit(l, skip, most) }}
}

func joined(b rows) asked {
	return asked{"Join", func(l rows) (rows, api.Errno) { return Join(l, b) }, func(l rows) (rows, api.Errno) { return modelJoin(l, b) }}
}

func grouped(by []int, aggs []api.Agg) asked {
	return asked{"Group", func(l rows) (rows, api.Errno) { return Group(l, by, aggs) }, func(l rows) (rows, api.Errno) { return modelGroup(l, by, aggs) }}
}

// hold holds a call against the model, and tells its error.
func (a asked) hold(t *testing.T, l rows) api.Errno {
	t.Helper()
	got, err := a.told(l)
	want, wantErr := a.want(l)
	if !same(got, want) || err != wantErr || err != api.OK && got != nil {
		t.Errorf("%s of %v: %v, %d; want %v, %d", a.name, l, got, err, want, wantErr)
	}
	return err
}

// wants holds a call against an answer that is written out.
func (a asked) wants(t *testing.T, l rows, want rows, wantErr api.Errno) {
	t.Helper()
	a.hold(t, l)
	if got, err := a.told(l); !same(got, want) || err != wantErr {
		t.Errorf("%s of %v: %v, %d; want %v, %d", a.name, l, got, err, want, wantErr)
	}
}

// calls has one of each call, with what fits rows of whatever width.
func calls() []asked {
	lit := []api.Node{{Op: api.OpLit, V: num(1)}}
	return []asked{filtered(nil, lit), projected(nil, [][]api.Node{lit}), sorted(nil), distinct(), limited(0, 9), joined(nil), grouped(nil, nil)}
}

func birds() rows {
	return rows{
		{num(2), text("b"), null},
		{num(1), text("a"), num(5)},
		{num(2), text("a"), num(-5)},
		{null, text("b"), num(7)},
		{num(2), text("b"), null},
		{num(9), null, null},
	}
}

var birdCols = []string{"n", "s", "m"}

// wrongValues has values with one fault or several, and the error of each.
func wrongValues() map[api.Value]api.Errno {
	return map[api.Value]api.Errno{{Kind: 4}: api.ErrKind, {Kind: -1, N: 1, S: "a"}: api.ErrKind, {N: 1}: api.ErrForm, {S: "a"}: api.ErrForm, {Kind: api.Int, S: "a"}: api.ErrForm, {Kind: api.Text, N: 1, S: long(17)}: api.ErrForm, text(long(17)): api.ErrMany, blob(long(17)): api.ErrMany}
}

// wrongLists has lists with faults, and the error of each.
func wrongLists() map[api.Errno][]rows {
	wrong := api.Value{Kind: 9}
	m := map[api.Errno][]rows{
		api.ErrMany: {list(41, 0), list(41, 8), list(41, 9), append(list(40, 2), row(wrong, wrong)), append(list(40, 2), nil), list(1, 9), list(40, 9), append(list(3, 8), make([]api.Value, 9)), append(list(3, 0), make([]api.Value, 9)), append(list(3, 2), make([]api.Value, 9), row(wrong, wrong)), {{wrong, null, null, null, null, null, null, null, null}}, make(rows, 1<<16)},
		api.ErrForm: {append(list(2, 2), row(null)), append(list(2, 2), nil), append(list(1, 0), row(null)), append(list(2, 7), make([]api.Value, 8)), append(list(39, 2), row(null)), append(list(2, 2), row(wrong)), append(list(2, 2), row(wrong, null, null)), append(list(1, 2), row(null), make([]api.Value, 9)), append(list(1, 2), row(null), row(wrong, null))},
		api.ErrKind: {{{wrong}}, {{wrong}, {}}, {{wrong}, make([]api.Value, 9)}, append(list(39, 2), row(null, wrong)), append(list(39, 2), row(wrong, null)), {{null}, {wrong}, {null, null}}},
	}
	for v, err := range wrongValues() {
		m[err] = append(m[err], rows{{v}}, append(list(1, 8), row(null, null, null, null, null, null, null, v)), append(list(1, 8), row(v, null, null, null, null, null, null, wrong)))
	}
	return m
}

// K1: each error, in its order, ahead of all others of each call.
func TestWrongLists(t *testing.T) {
	e := []api.Node{{Op: api.OpLit, V: num(1)}}
	all := append(calls(), filtered(nil, nil), filtered(nil, e), projected(nil, make([][]api.Node, 9)), projected(nil, [][]api.Node{nil}), sorted(make([]api.Key, 9)), sorted([]api.Key{{Col: -1}}), limited(-1, -1), joined(list(41, 9)), joined(list(40, 8)), joined(rows{{{Kind: 8, N: 8}}}), grouped(make([]int, 9), nil), grouped([]int{-1}, []api.Agg{{}}), grouped(nil, []api.Agg{{Kind: 9}}))
	for want, lists := range wrongLists() {
		for _, l := range lists {
			if err := Check(l); err != want {
				t.Errorf("Check(%v) = %d; want %d", l, err, want)
			}
			for _, a := range all {
				if got, err := a.told(l); got != nil || err != want {
					t.Errorf("%s of %v: %v, %d; want %d", a.name, l, got, err, want)
				}
			}
			for _, a := range []rows{nil, birds(), list(40, 8)} {
				if got, err := Join(a, l); got != nil || err != want {
					t.Errorf("Join(%v, %v) = %v, %d; want %d", a, l, got, err, want)
				}
			}
		}
	}
}

// K1: lists at their limits, without rows, and of rows without values.
func TestRightLists(t *testing.T) {
	full := list(40, 8)
	for i := range full {
		full[i] = row(null, num(math.MinInt64), num(math.MaxInt64), text(""), text(long(16)), blob(""), blob(long(16)), num(int64(i)))
	}
	for _, l := range []rows{nil, {}, {nil}, {{}, nil, {}}, list(40, 0), list(40, 8), list(1, 8), full, birds()} {
		if err := Check(l); err != api.OK {
			t.Errorf("Check(%v) = %d", l, err)
		}
		for _, a := range calls() {
			if a.name == "Filter" || a.name == "Project" {
				a = filtered(make([]string, modelWidth(l)), []api.Node{{Op: api.OpLit, V: num(1)}})
			}
			if err := a.hold(t, l); err != api.OK {
				t.Errorf("%s of %v: %d", a.name, l, err)
			}
		}
	}
}

func modelWidth(l rows) int {
	for _, r := range l {
		return len(r)
	}
	return 0
}

// K2: what is kept, in words.
func TestFilter(t *testing.T) {
	b := birds()
	for s, want := range map[string]rows{
		"n > 1": {b[0], b[2], b[4], b[5]}, "n = 2 and s = 'b'": {b[0], b[4]}, "m is null": {b[0], b[4], b[5]}, "not n > 1": {b[1]}, "1": b, "0": nil, "null": nil, "n": {b[0], b[1], b[2], b[4], b[5]}, "- 1": b, "s like 'b'": {b[0], b[3], b[4]}, "n / m > 0": nil, "n is null or s is null": {b[3], b[5]}, "n <> n": nil,
	} {
		filtered(birdCols, parsed(t, s)).wants(t, b, want, api.OK)
		filtered(birdCols, parsed(t, s)).wants(t, nil, nil, api.OK)
	}
}

// K2: errors: the list, the expression, then row by row.
func TestFilterErrors(t *testing.T) {
	b := birds()
	for s, want := range map[string]api.Errno{"'x'": api.ErrKind, "x''": api.ErrKind, "s": api.ErrKind, "z = 1": api.ErrNone, "0 and z": api.ErrNone, "m / (n - 1) > 0": api.ErrZero, "9223372036854775807 + n": api.ErrOver, "n like 'a'": api.ErrKind, `s like '\'`: api.ErrForm} {
		filtered(birdCols, parsed(t, s)).wants(t, b, nil, want)
		filtered(birdCols, parsed(t, s)).wants(t, nil, nil, api.OK)
	}
	one := parsed(t, "1")
	for _, c := range []struct {
		cols []string
		err  api.Errno
	}{{birdCols[:2], api.ErrForm}, {nil, api.ErrForm}, {make([]string, 9), api.ErrMany}, {make([]string, 8), api.ErrForm}, {make([]string, 3), api.OK}} {
		if err := filtered(c.cols, one).hold(t, b); err != c.err {
			t.Errorf("%q: %d; want %d", c.cols, err, c.err)
		}
		filtered(c.cols, one).wants(t, nil, nil, api.OK)
	}
	for _, e := range [][]api.Node{nil, {{Op: api.OpLit, V: num(-1)}}, make([]api.Node, 61), {{Op: 99}}, {{Op: api.OpNeg, Kids: 1}}} {
		want := expr.Check(e)
		for _, l := range []rows{nil, b} {
			for _, cols := range [][]string{birdCols, nil, make([]string, 9)} {
				filtered(cols, e).wants(t, l, nil, want)
				projected(cols, [][]api.Node{parsed(t, "1 / 0"), e}).wants(t, l, nil, want)
			}
		}
	}
	// The first row has ErrZero and the second one ErrKind, and the other way round.
	both := rows{{num(0), num(1)}, {text(""), num(1)}}
	filtered([]string{"a", "b"}, parsed(t, "b / a")).wants(t, both, nil, api.ErrZero)
	slices.Reverse(both)
	filtered([]string{"a", "b"}, parsed(t, "b / a")).wants(t, both, nil, api.ErrKind)
}

// K2: what rows become; none of expressions leaves rows without values.
func TestProject(t *testing.T) {
	b := birds()
	projected(birdCols, [][]api.Node{parsed(t, "n + 1"), parsed(t, "s"), parsed(t, "n is null"), parsed(t, "s")}).wants(t, b, rows{
		{num(3), text("b"), num(0), text("b")}, {num(2), text("a"), num(0), text("a")}, {num(3), text("a"), num(0), text("a")}, {null, text("b"), num(1), text("b")}, {num(3), text("b"), num(0), text("b")}, {num(10), null, num(0), null},
	}, api.OK)
	projected(birdCols, nil).wants(t, b, list(6, 0), api.OK)
	projected(nil, nil).wants(t, b, list(6, 0), api.OK)
	projected(make([]string, 9), nil).wants(t, b, list(6, 0), api.OK)
	n := parsed(t, "n")
	projected(birdCols, slices.Repeat([][]api.Node{n}, 8)).wants(t, b[:1], rows{{num(2), num(2), num(2), num(2), num(2), num(2), num(2), num(2)}}, api.OK)
	for _, l := range []rows{b, nil} {
		projected(birdCols, slices.Repeat([][]api.Node{n}, 9)).wants(t, l, nil, api.ErrMany)
		projected(birdCols, make([][]api.Node, 9)).wants(t, l, nil, api.ErrMany)
		projected(birdCols, make([][]api.Node, 8)).wants(t, l, nil, api.ErrForm)
		projected(birdCols, [][]api.Node{n, {{Op: api.OpLit, V: num(-1)}}}).wants(t, l, nil, api.ErrRange)
		projected(birdCols, [][]api.Node{{{Op: api.OpLit, V: num(-1)}}, nil}).wants(t, l, nil, api.ErrRange)
	}
	projected(birdCols, [][]api.Node{parsed(t, "z"), nil}).wants(t, b, nil, api.ErrForm)
	projected(birdCols, [][]api.Node{parsed(t, "z")}).wants(t, b, nil, api.ErrNone)
	projected(birdCols, [][]api.Node{parsed(t, "z")}).wants(t, nil, nil, api.OK)
	projected(birdCols[1:], [][]api.Node{n}).wants(t, b, nil, api.ErrForm)
	projected(make([]string, 9), [][]api.Node{n}).wants(t, b, nil, api.ErrMany)
	// Row by row, and in each one expression behind the other.
	cols, l := []string{"a"}, rows{{num(1)}, {num(0)}, {text("")}}
	inverse, neither := parsed(t, "1 / a"), parsed(t, "(a - 1) / (a + 0 * a)")
	projected(cols, [][]api.Node{inverse, parsed(t, "z")}).wants(t, l, nil, api.ErrNone)
	projected(cols, [][]api.Node{inverse, neither}).wants(t, l, nil, api.ErrZero)
	projected(cols, [][]api.Node{parsed(t, "a like ''"), inverse}).wants(t, l, nil, api.ErrKind)
	projected(cols, [][]api.Node{inverse, parsed(t, "- a")}).wants(t, rows{l[2], l[1]}, nil, api.ErrKind)
	projected(cols, [][]api.Node{parsed(t, "1 / (a - 1)"), parsed(t, "z")}).wants(t, l, nil, api.ErrZero)
}

// K3: rows in the order of keys, Nulls first, then Ints, Texts and Blobs; the same ones stay as they stood.
func TestSort(t *testing.T) {
	b := birds()
	for _, c := range []struct {
		keys  []api.Key
		order []int
	}{
		{nil, []int{0, 1, 2, 3, 4, 5}},
		{[]api.Key{{Col: 0}}, []int{3, 1, 0, 2, 4, 5}},
		{[]api.Key{{Col: 0, Desc: true}}, []int{5, 0, 2, 4, 1, 3}},
		{[]api.Key{{Col: 1}, {Col: 0}}, []int{5, 1, 2, 3, 0, 4}},
		{[]api.Key{{Col: 1}, {Col: 2, Desc: true}}, []int{5, 1, 2, 3, 0, 4}},
		{[]api.Key{{Col: 1, Desc: true}, {Col: 0, Desc: true}}, []int{0, 4, 3, 2, 1, 5}},
		{[]api.Key{{Col: 2}, {Col: 2, Desc: true}}, []int{0, 4, 5, 2, 1, 3}},
		{make([]api.Key, 8), []int{3, 1, 0, 2, 4, 5}},
	} {
		var want rows
		for _, i := range c.order {
			want = append(want, b[i])
		}
		sorted(c.keys).wants(t, b, want, api.OK)
		sorted(c.keys).wants(t, nil, nil, api.OK)
	}
	rising := rows{{null}, {num(math.MinInt64)}, {num(-1)}, {num(0)}, {num(math.MaxInt64)}, {text("")}, {text("\x00")}, {text("a")}, {text("a\x00")}, {text("b")}, {text("\xff")}, {blob("")}, {blob("\x00")}, {blob("a")}, {blob("\xff")}}
	falling := slices.Clone(rising)
	slices.Reverse(falling)
	for _, l := range []rows{rising, falling} {
		sorted([]api.Key{{}}).wants(t, l, rising, api.OK)
		sorted([]api.Key{{Desc: true}}).wants(t, l, falling, api.OK)
	}
	for _, l := range []rows{b, nil} {
		sorted(make([]api.Key, 9)).wants(t, l, nil, api.ErrMany)
		sorted(slices.Repeat([]api.Key{{Col: -1}}, 9)).wants(t, l, nil, api.ErrMany)
	}
	for _, col := range []int{-1, 3, 8, math.MaxInt, math.MinInt} {
		for _, keys := range [][]api.Key{{{Col: col}}, {{Col: 0}, {Col: 1}, {Col: col, Desc: true}}, {{Col: col}, {Col: 0}}} {
			sorted(keys).wants(t, b, nil, api.ErrRange)
			sorted(keys).wants(t, b[:1], nil, api.ErrRange)
			sorted(keys).wants(t, rows{}, nil, api.OK)
		}
	}
	sorted([]api.Key{{}}).wants(t, rows{{}}, nil, api.ErrRange)
}

// K3: the first one of those that are the same; what only looks alike stays.
func TestDistinct(t *testing.T) {
	b := birds()
	distinct().wants(t, b, rows{b[0], b[1], b[2], b[3], b[5]}, api.OK)
	distinct().wants(t, rows{{}, {}, {}}, rows{{}}, api.OK)
	distinct().wants(t, list(40, 8), list(1, 8), api.OK)
	alike := rows{{null, null}, {num(0), null}, {text(""), null}, {blob(""), null}, {null, num(0)}, {null, text("")}, {text("a"), text("b")}, {text("ab"), text("")}, {text(""), text("ab")}, {text("a\x00"), text("b")}, {text("a"), text("\x00b")}, {blob("a"), text("b")}, {text("1"), num(1)}, {num(1), text("1")}, {text("a"), blob("b")}, {num(-1), num(1)}, {num(1), num(-1)}}
	distinct().wants(t, alike, alike, api.OK)
	distinct().wants(t, slices.Concat(alike, alike), alike, api.OK)
}

// K3: each number of rows behind each number that is left out.
func TestLimit(t *testing.T) {
	b := birds()
	for _, skip := range []int{math.MinInt, -1, 0, 1, 2, 5, 6, 7, 40, math.MaxInt} {
		for _, most := range []int{math.MinInt, -1, 0, 1, 2, 5, 6, 7, 40, math.MaxInt} {
			for _, l := range []rows{nil, b[:1], b, list(40, 2)} {
				err := limited(skip, most).hold(t, l)
				if wrong := skip < 0 || most < 0; wrong != (err == api.ErrRange) {
					t.Errorf("%d %d: %d", skip, most, err)
				}
			}
		}
	}
	limited(2, 3).wants(t, b, b[2:5], api.OK)
	limited(5, 3).wants(t, b, b[5:], api.OK)
	limited(6, 3).wants(t, b, nil, api.OK)
	limited(0, 0).wants(t, b, nil, api.OK)
	limited(math.MaxInt, math.MaxInt).wants(t, b, nil, api.OK)
	limited(1, math.MaxInt).wants(t, b, b[1:], api.OK)
}

// K4: a's first row with all of b, and so on.
func TestJoin(t *testing.T) {
	joined(rows{{num(7), null}, {num(8), num(9)}}).wants(t, rows{{text("a")}, {text("b")}, {text("a")}}, rows{
		{text("a"), num(7), null}, {text("a"), num(8), num(9)}, {text("b"), num(7), null}, {text("b"), num(8), num(9)}, {text("a"), num(7), null}, {text("a"), num(8), num(9)},
	}, api.OK)
	b := birds()
	joined(nil).wants(t, b, nil, api.OK)
	joined(b).wants(t, nil, nil, api.OK)
	joined(nil).wants(t, nil, nil, api.OK)
	joined(rows{{}}).wants(t, b, b, api.OK)
	joined(b).wants(t, rows{{}}, b, api.OK)
	joined(rows{{}, {}}).wants(t, rows{{}}, rows{{}, {}}, api.OK)
	joined(list(1, 5)).wants(t, list(1, 3), list(1, 8), api.OK)
	joined(nil).wants(t, list(40, 8), nil, api.OK)
	joined(list(40, 8)).wants(t, nil, nil, api.OK)
	joined(list(1, 0)).wants(t, list(40, 8), list(40, 8), api.OK)
	joined(list(8, 4)).wants(t, list(5, 4), list(40, 8), api.OK)
}

// K4: too wide, and too many.
func TestJoinTooMuch(t *testing.T) {
	for _, c := range [][4]int{{1, 8, 1, 1}, {1, 4, 1, 5}, {1, 5, 1, 4}, {1, 8, 1, 8}, {40, 8, 40, 8}, {41, 0, 1, 0}, {1, 0, 41, 0}, {2, 0, 21, 0}, {7, 1, 6, 1}, {40, 1, 2, 1}, {40, 0, 40, 0}, {14, 1, 3, 1}} {
		joined(list(c[2], c[3])).wants(t, list(c[0], c[1]), nil, api.ErrMany)
	}
	for _, a := range []int{0, 1, 2, 4, 5, 6, 7, 8, 13, 20, 40} {
		for _, b := range []int{0, 1, 2, 3, 5, 6, 8, 20, 40} {
			for _, w := range [][2]int{{0, 0}, {0, 8}, {4, 4}, {4, 5}, {8, 1}} {
				joined(list(b, w[1])).hold(t, list(a, w[0]))
			}
		}
	}
	// a's faults come ahead of b's.
	joined(rows{{{Kind: 9}}}).wants(t, rows{{num(0)}, {}}, nil, api.ErrForm)
	joined(rows{{num(0)}, {}}).wants(t, rows{{{Kind: 9}}}, nil, api.ErrKind)
	joined(rows{{{Kind: 9}}}).wants(t, list(40, 8), nil, api.ErrKind)
}

// K5: what is told of groups, in the order in which they begin.
func TestGroup(t *testing.T) {
	b := birds()
	all := []api.Agg{{Kind: api.Count, Col: -1}, {Kind: api.Count, Col: 2}, {Kind: api.Sum, Col: 2}, {Kind: api.Min, Col: 2}, {Kind: api.Max, Col: 1}}
	for _, c := range []struct {
		by   []int
		aggs []api.Agg
		want rows
	}{
		{nil, nil, rows{{}}},
		{nil, all, rows{{num(6), num(3), num(7), num(-5), text("b")}}},
		{[]int{0}, nil, rows{{num(2)}, {num(1)}, {null}, {num(9)}}},
		{[]int{0}, all, rows{{num(2), num(3), num(1), num(-5), num(-5), text("b")}, {num(1), num(1), num(1), num(5), num(5), text("a")}, {null, num(1), num(1), num(7), num(7), text("b")}, {num(9), num(1), num(0), null, null, null}}},
		{[]int{1, 0}, []api.Agg{{Kind: api.Count, Col: -1}}, rows{{text("b"), num(2), num(2)}, {text("a"), num(1), num(1)}, {text("a"), num(2), num(1)}, {text("b"), null, num(1)}, {null, num(9), num(1)}}},
		{[]int{2, 2}, []api.Agg{{Kind: api.Count}}, rows{{null, null, num(3)}, {num(5), num(5), num(1)}, {num(-5), num(-5), num(1)}, {num(7), num(7), num(0)}}},
		{[]int{0, 1, 2, 0, 1, 2, 0, 1}, nil, rows{{num(2), text("b"), null, num(2), text("b"), null, num(2), text("b")}, {num(1), text("a"), num(5), num(1), text("a"), num(5), num(1), text("a")}, {num(2), text("a"), num(-5), num(2), text("a"), num(-5), num(2), text("a")}, {null, text("b"), num(7), null, text("b"), num(7), null, text("b")}, {num(9), null, null, num(9), null, null, num(9), null}}},
	} {
		grouped(c.by, c.aggs).wants(t, b, c.want, api.OK)
	}
	grouped(nil, []api.Agg{{Kind: api.Count, Col: -1}, {Kind: api.Count}, {Kind: api.Sum}, {Kind: api.Min}, {Kind: api.Max}}).wants(t, nil, rows{{num(0), num(0), null, null, null}}, api.OK)
	grouped(nil, nil).wants(t, rows{}, rows{{}}, api.OK)
	grouped([]int{0}, []api.Agg{{Kind: api.Count, Col: -1}}).wants(t, nil, nil, api.OK)
	grouped([]int{0}, nil).wants(t, rows{}, nil, api.OK)
	grouped(nil, []api.Agg{{Kind: api.Count, Col: -1}}).wants(t, list(40, 0), rows{{num(40)}}, api.OK)
}

// K5: the least and the greatest of each kind, Nulls beside them.
func TestGroupLeastAndGreatest(t *testing.T) {
	rising := []api.Value{num(math.MinInt64), num(-1), num(0), num(math.MaxInt64), text(""), text("a"), text("a\x00"), text("b"), blob(""), blob("a")}
	aggs := []api.Agg{{Kind: api.Min}, {Kind: api.Max}, {Kind: api.Count}}
	for i, least := range rising {
		for _, greatest := range rising[i:] {
			for _, l := range []rows{{{least}, {greatest}}, {{greatest}, {least}}, {{null}, {greatest}, {null}, {least}, {null}}} {
				grouped(nil, aggs).wants(t, l, rows{{least, greatest, num(2)}}, api.OK)
			}
		}
		grouped(nil, aggs).wants(t, rows{{null}, {least}}, rows{{least, least, num(1)}}, api.OK)
	}
	grouped(nil, aggs).wants(t, rows{{null}, {null}}, rows{{null, null, num(0)}}, api.OK)
}

// K5: sums run over only as a whole, and are of Ints alone.
func TestGroupSum(t *testing.T) {
	great, least := num(math.MaxInt64), num(math.MinInt64)
	sum := grouped(nil, []api.Agg{{Kind: api.Sum}})
	sum.wants(t, rows{{great}, {num(1)}}, nil, api.ErrOver)
	sum.wants(t, rows{{great}, {num(1)}, {null}, {num(-1)}}, rows{{great}}, api.OK)
	sum.wants(t, rows{{least}, {num(-1)}}, nil, api.ErrOver)
	sum.wants(t, rows{{least}, {num(-1)}, {num(1)}}, rows{{least}}, api.OK)
	sum.wants(t, rows{{great}, {great}, {least}, {least}}, rows{{num(-2)}}, api.OK)
	sum.wants(t, rows{{null}, {null}}, rows{{null}}, api.OK)
	sum.wants(t, rows{{null}, {num(0)}}, rows{{num(0)}}, api.OK)
	for _, v := range []api.Value{text(""), text("1"), blob(""), blob("1")} {
		sum.wants(t, rows{{v}}, nil, api.ErrKind)
		sum.wants(t, rows{{null}, {num(1)}, {v}}, nil, api.ErrKind)
		sum.wants(t, rows{{great}, {great}, {v}}, nil, api.ErrKind)
		grouped([]int{1}, []api.Agg{{Kind: api.Sum}}).wants(t, rows{{num(1), null}, {v, num(1)}}, nil, api.ErrKind)
		// Group by group, and in each one of aggs behind the other.
		grouped([]int{1}, []api.Agg{{Kind: api.Sum}}).wants(t, rows{{great, null}, {v, num(1)}, {great, null}}, nil, api.ErrOver)
		grouped([]int{1}, []api.Agg{{Kind: api.Sum}}).wants(t, rows{{v, null}, {great, num(1)}, {great, num(1)}}, nil, api.ErrKind)
		grouped(nil, []api.Agg{{Kind: api.Sum}, {Kind: api.Sum, Col: 1}}).wants(t, rows{{great, v}, {great, v}}, nil, api.ErrOver)
		grouped(nil, []api.Agg{{Kind: api.Sum, Col: 1}, {Kind: api.Sum}}).wants(t, rows{{great, v}, {great, v}}, nil, api.ErrKind)
		grouped([]int{2}, []api.Agg{{Kind: api.Sum}, {Kind: api.Sum, Col: 1}}).wants(t, rows{{num(1), v, null}, {great, null, num(1)}, {great, null, num(1)}}, nil, api.ErrKind)
	}
	full := list(40, 1)
	for i := range full {
		full[i][0] = num(math.MaxInt64 / 40)
	}
	sum.wants(t, full, rows{{num(math.MaxInt64 / 40 * 40)}}, api.OK)
}

// K5: errors of what is asked, in their order.
func TestGroupErrors(t *testing.T) {
	b := birds()
	count := api.Agg{Kind: api.Count, Col: -1}
	for _, l := range []rows{b, nil} {
		for i := range 10 {
			grouped(make([]int, i), slices.Repeat([]api.Agg{count}, 9-i)).wants(t, l, nil, api.ErrMany)
			grouped(slices.Repeat([]int{9}, i), make([]api.Agg, 9-i)).wants(t, l, nil, api.ErrMany)
			if i < 9 {
				grouped(make([]int, i), slices.Repeat([]api.Agg{count}, 8-i)).hold(t, l)
			}
		}
		grouped(make([]int, 1<<16), make([]api.Agg, 1<<16)).wants(t, l, nil, api.ErrMany)
		for _, kind := range []int{0, 5, -1, math.MaxInt, math.MinInt} {
			for _, aggs := range [][]api.Agg{{{Kind: kind}}, {count, {Kind: kind}}, {{Kind: api.Sum, Col: 99}, {Kind: kind}}, {{Kind: kind, Col: -1}}, {{Kind: api.Sum, Col: 1}, {Kind: kind}}} {
				grouped(nil, aggs).wants(t, l, nil, api.ErrKind)
				grouped([]int{-1}, aggs).wants(t, l, nil, api.ErrKind)
			}
		}
	}
	for _, col := range []int{-1, -2, 3, 8, math.MaxInt, math.MinInt} {
		for kind := api.Count; kind <= api.Max; kind++ {
			want := api.ErrRange
			if kind == api.Count && col == -1 {
				want = api.OK
			}
			for _, aggs := range [][]api.Agg{{{Kind: kind, Col: col}}, {count, {Kind: kind, Col: col}}} {
				if err := grouped(nil, aggs).hold(t, b); err != want {
					t.Errorf("%v: %d; want %d", aggs, err, want)
				}
				if err := grouped(nil, aggs).hold(t, nil); err != api.OK {
					t.Errorf("%v: %d", aggs, err)
				}
			}
			grouped(nil, []api.Agg{{Kind: api.Sum, Col: 1}, {Kind: api.Min, Col: 3}}).wants(t, b, nil, api.ErrRange)
		}
		grouped([]int{0, col}, []api.Agg{count}).wants(t, b, nil, api.ErrRange)
		grouped([]int{col}, nil).wants(t, b, nil, api.ErrRange)
		grouped([]int{col}, nil).wants(t, nil, nil, api.OK)
		grouped([]int{col}, []api.Agg{{Kind: api.Sum, Col: col}}).wants(t, rows{}, nil, api.OK)
	}
	grouped([]int{0}, nil).wants(t, rows{{}}, nil, api.ErrRange)
}

func drawnValue(d *draw) api.Value {
	some := []api.Value{null, null, num(0), num(1), num(1), num(-1), num(2), text(""), text("a"), text("b"), blob(""), blob("a"), num(math.MaxInt64), num(math.MinInt64)}
	return some[d.below(len(some))]
}

// drawnList has few different values in each column, so that many are the same; now and then something is wrong.
func drawnList(d *draw) rows {
	n, width := d.below(12), d.below(4)
	if d.below(8) == 0 {
		n, width = 34+d.below(8), d.below(10)
	}
	var some []api.Value
	for range 1 + d.below(4) {
		some = append(some, drawnValue(d))
	}
	l := list(n, width)
	for _, r := range l {
		for i := range r {
			r[i] = some[d.below(len(some))]
		}
	}
	if n > 0 && d.below(12) == 0 {
		l[d.below(n)] = make([]api.Value, d.below(10))
	}
	if n > 0 && width > 0 && d.below(12) == 0 {
		if r := l[d.below(n)]; len(r) > 0 {
			r[d.below(len(r))] = []api.Value{{Kind: 7}, {N: 1}, text(long(17))}[d.below(3)]
		}
	}
	return l
}

// drawnCall asks for columns that are mostly there.
func drawnCall(d *draw, es [][]api.Node) asked {
	col := func() int { return d.below(12)%3 - d.below(20)/19 + d.below(20)/19 }
	cols := []string{"a", "b", "c", "d"}[:1+d.below(4)]
	switch d.below(7) {
	case 0:
		return filtered(cols, es[d.below(len(es))])
	case 1:
		var l [][]api.Node
		for range d.below(4) + d.below(9)/8*6 {
			l = append(l, es[d.below(len(es))])
		}
		return projected(cols, l)
	case 2:
		var keys []api.Key
		for range d.below(4) + d.below(9)/8*6 {
			keys = append(keys, api.Key{Col: col(), Desc: d.below(2) == 1})
		}
		return sorted(keys)
	case 3:
		return distinct()
	case 4:
		return limited(d.below(14)-1, d.below(14)-1)
	case 5:
		return joined(drawnList(d))
	}
	var by []int
	for range d.below(3) + d.below(9)/8*4 {
		by = append(by, col())
	}
	var aggs []api.Agg
	for range d.below(4) + d.below(9)/8*3 {
		aggs = append(aggs, api.Agg{Kind: 1 + d.below(33)%4 + d.below(20)/19, Col: col()})
	}
	return grouped(by, aggs)
}

func drawnExprs(t *testing.T) [][]api.Node {
	es := [][]api.Node{nil, {{Op: 99}}}
	for _, s := range []string{"1", "0", "a", "b", "a = b", "a < b", "a is null", "a + 1", "a / b", "not a", "a and b", "c", "a like 'a'", "null", "'x'", "a in (1, 'a', null)", "b between a and 2", "- a"} {
		es = append(es, parsed(t, s))
	}
	return es
}

// K1 to K6: drawn lists and calls against the models.
func TestDrawn(t *testing.T) {
	d := draw(6)
	es := drawnExprs(t)
	counts := map[string]map[api.Errno]int{}
	for range 60000 {
		l := drawnList(&d)
		if err := Check(l); err != modelCheck(l) {
			t.Errorf("Check(%v) = %d; want %d", l, err, modelCheck(l))
		}
		a := drawnCall(&d, es)
		err := a.hold(t, l)
		if counts[a.name] == nil {
			counts[a.name] = map[api.Errno]int{}
		}
		counts[a.name][err]++
	}
	for name, count := range counts {
		if count[api.OK] < 1000 || count[api.ErrMany] < 50 || count[api.ErrForm] < 50 || count[api.ErrKind] < 50 {
			t.Errorf("%s: drawn too few of a kind: %v", name, count)
		}
	}
}

// roomy answers a list with spare room behind it and behind its rows, filled.
func roomy(l rows) rows {
	out := make(rows, 0, len(l)+2)
	for _, r := range l {
		out = append(out, append(slices.Clone(r), num(77), text("room"))[:len(r)])
	}
	return append(out, row(num(78)), row(num(79)))[:len(l)]
}

// entire tells all that a list has, its spare room too.
func entire(l rows) rows {
	var out rows
	for _, r := range l[:cap(l)] {
		out = append(out, slices.Clone(r[:cap(r)]))
	}
	return out
}

// ownRows writes all over an answer, and tells whether no two rows of it share memory.
func ownRows(l rows) bool {
	for i, r := range l {
		for k := range r[:cap(r)] {
			r[:cap(r)][k] = num(int64(1000 + i))
		}
	}
	for i, r := range l {
		for _, v := range r[:cap(r)] {
			if v != num(int64(1000+i)) {
				return false
			}
		}
	}
	for i := range l[:cap(l)] {
		l[:cap(l)][i] = row(text("gone"))
	}
	return true
}

// P2: what is handed in is only read, the room behind it too; what is answered is the caller's, even if rows that were handed in are one.
func TestOnlyRead(t *testing.T) {
	e, n := parsed(t, "n is null or n > 0"), parsed(t, "n")
	other := roomy(rows{{num(1)}, {num(2)}})
	all := []asked{filtered(birdCols, e), projected(birdCols, [][]api.Node{n, e}), sorted(nil), sorted([]api.Key{{Col: 1}}), distinct(), limited(0, 40), limited(1, 2), joined(other), joined(rows{{}}), grouped([]int{0}, []api.Agg{{Kind: api.Sum, Col: 2}, {Kind: api.Max, Col: 1}}), grouped([]int{0, 1, 2}, nil), grouped(nil, []api.Agg{{Kind: api.Count, Col: -1}})}
	once := roomy(birds()[:1])[0]
	for _, l := range []rows{roomy(birds()), {once, once, once}, roomy(nil)} {
		kept, keptOther := entire(l), entire(other)
		for _, a := range all {
			for range 2 {
				a.hold(t, l)
				got, _ := a.told(l)
				if !ownRows(got) {
					t.Errorf("%s: rows share memory", a.name)
				}
				if !same(entire(l), kept) || !same(entire(other), keptOther) {
					t.Fatalf("%s: %v has become %v", a.name, kept, entire(l))
				}
			}
		}
	}
	both, _ := Join(rows{{}}, rows{birds()[0]})
	alone, _ := Join(rows{birds()[0]}, rows{{}})
	if !ownRows(both) || !ownRows(alone) {
		t.Error("rows share memory")
	}
}

// P2: keys, columns and aggs are only read, and what is answered does not change with them.
func TestOthersOnlyRead(t *testing.T) {
	keys := []api.Key{{Col: 1}, {Col: 0, Desc: true}, {Col: 9}}
	by := []int{1, 0, 9}
	aggs := []api.Agg{{Kind: api.Count, Col: -1}, {Kind: 9}}
	cols := []string{"n", "s", "m", "z"}
	es := [][]api.Node{parsed(t, "n + 1"), parsed(t, "s"), nil}
	b := birds()
	for range 2 {
		sorted(keys[:2]).hold(t, b)
		grouped(by[:2], aggs[:1]).hold(t, b)
		projected(cols[:3], es[:2]).hold(t, b)
		filtered(cols[:3], es[0]).hold(t, b)
	}
	if !slices.Equal(keys, []api.Key{{Col: 1}, {Col: 0, Desc: true}, {Col: 9}}) || !slices.Equal(by, []int{1, 0, 9}) || !slices.Equal(aggs, []api.Agg{{Kind: api.Count, Col: -1}, {Kind: 9}}) || !slices.Equal(cols, []string{"n", "s", "m", "z"}) || len(es[2]) != 0 || !slices.Equal(es[0], parsed(t, "n + 1")) {
		t.Errorf("%v %v %v %q %v", keys, by, aggs, cols, es)
	}
	got, _ := Sort(b, nil)
	b[0][0] = text("changed")
	if !same(got, birds()) {
		t.Errorf("a change is seen in what was answered: %v", got)
	}
}

// P1, P3, K6: whatever was asked ahead of it, and whoever asks at the same time.
func TestNothingIsKept(t *testing.T) {
	es := drawnExprs(t)
	var hands sync.WaitGroup
	for seed := range 4 {
		hands.Go(func() {
			d := draw(60 + seed)
			for range 2000 {
				a, l := drawnCall(&d, es), drawnList(&d)
				a.hold(t, l)
				a.hold(t, l)
			}
		})
	}
	hands.Wait()
}

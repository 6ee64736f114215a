package bag

import (
	"math/big"
	"math/bits"
	"slices"
	"strings"
	"testing"

	"starling/api"
	"starling/eval"
	"starling/expr"
	"starling/lex"
	"starling/value"
)

// draw: numbers that are the same each time.
type draw uint64

func (d *draw) next() uint64 {
	*d = *d*6364136223846793005 + 1442695040888963407
	x := uint64(*d)
	return bits.RotateLeft64(x^x>>29, 23) * 0x9E3779B97F4A7C15
}

func (d *draw) below(n int) int { return int(d.next() >> 11 % uint64(n)) }

type rows = [][]api.Value

func num(n int64) api.Value          { return api.Value{Kind: api.Int, N: n} }
func text(s string) api.Value        { return api.Value{Kind: api.Text, S: s} }
func blob(s string) api.Value        { return api.Value{Kind: api.Blob, S: s} }
func long(n int) string              { return strings.Repeat("w", n) }
func row(l ...api.Value) []api.Value { return l }

var null api.Value

// list makes so many rows of so many Nulls.
func list(n, width int) rows {
	l := make(rows, n)
	for i := range l {
		l[i] = make([]api.Value, width)
	}
	return l
}

func same(a, b rows) bool { return slices.EqualFunc(a, b, slices.Equal) }

func parsed(t *testing.T, s string) []api.Node {
	t.Helper()
	l, _, err := lex.Lex(s)
	if err != api.OK {
		t.Fatalf("%s: %d", s, err)
	}
	e, err := expr.Parse(l)
	if err != api.OK {
		t.Fatalf("%s: %d", s, err)
	}
	return e
}

func modelCheck(lists ...rows) api.Errno {
	for _, l := range lists {
		if len(l) > 40 {
			return api.ErrMany
		}
		for _, r := range l {
			if len(r) > 8 {
				return api.ErrMany
			}
			if len(r) != len(l[0]) {
				return api.ErrForm
			}
			for _, v := range r {
				if err := value.Check(v); err != api.OK {
					return err
				}
			}
		}
	}
	return api.OK
}

func modelFilter(l rows, cols []string, e []api.Node) (rows, api.Errno) {
	if err := modelCheck(l); err != api.OK {
		return nil, err
	}
	if err := expr.Check(e); err != api.OK {
		return nil, err
	}
	var out rows
	for _, r := range l {
		switch truth, err := eval.Truth(e, cols, r); {
		case err != api.OK:
			return nil, err
		case truth == api.True:
			out = append(out, r)
		}
	}
	return out, api.OK
}

func modelProject(l rows, cols []string, es [][]api.Node) (rows, api.Errno) {
	if err := modelCheck(l); err != api.OK {
		return nil, err
	}
	if len(es) > 8 {
		return nil, api.ErrMany
	}
	for _, e := range es {
		if err := expr.Check(e); err != api.OK {
			return nil, err
		}
	}
	out := list(len(l), len(es))
	for n := range len(l) * len(es) {
		v, err := eval.Eval(es[n%len(es)], cols, l[n/len(es)])
		if err != api.OK {
			return nil, err
		}
		out[n/len(es)][n%len(es)] = v
	}
	return out, api.OK
}

func less(a, b api.Value) bool {
	if a.Kind != b.Kind {
		return a.Kind < b.Kind
	}
	if a.N != b.N {
		return a.N < b.N
	}
	return a.S < b.S
}

// ahead tells whether row i of a list stands ahead of row j, sorted by keys.
func ahead(l rows, keys []api.Key, i, j int) bool {
	for _, k := range keys {
		a, b := l[i][k.Col], l[j][k.Col]
		if a != b {
			return less(a, b) != k.Desc
		}
	}
	return i < j
}

// modelSort sets each row at the place that is as high as there are rows ahead of it.
func modelSort(l rows, keys []api.Key) (rows, api.Errno) {
	if err := modelCheck(l); err != api.OK {
		return nil, err
	}
	if len(keys) > 8 {
		return nil, api.ErrMany
	}
	for _, k := range keys {
		if len(l) > 0 && (k.Col < 0 || k.Col >= len(l[0])) {
			return nil, api.ErrRange
		}
	}
	out := make(rows, len(l))
	for i := range l {
		place := 0
		for j := range l {
			if ahead(l, keys, j, i) {
				place++
			}
		}
		out[place] = l[i]
	}
	return out, api.OK
}

func modelDistinct(l rows) (rows, api.Errno) {
	if err := modelCheck(l); err != api.OK {
		return nil, err
	}
	var out rows
	for i, r := range l {
		if !slices.ContainsFunc(l[:i], func(q []api.Value) bool { return slices.Equal(q, r) }) {
			out = append(out, r)
		}
	}
	return out, api.OK
}

func modelLimit(l rows, skip, most int) (rows, api.Errno) {
	if err := modelCheck(l); err != api.OK {
		return nil, err
	}
	if skip < 0 || most < 0 {
		return nil, api.ErrRange
	}
	var out rows
	for i, r := range l {
		if i >= skip && len(out) < most {
			out = append(out, r)
		}
	}
	return out, api.OK
}

func modelJoin(a, b rows) (rows, api.Errno) {
	if err := modelCheck(a, b); err != api.OK {
		return nil, err
	}
	width := 0
	for _, l := range []rows{a, b} {
		if len(l) > 0 {
			width += len(l[0])
		}
	}
	if width > 8 || len(a)*len(b) > 40 {
		return nil, api.ErrMany
	}
	var out rows
	for n := range len(a) * len(b) {
		var r []api.Value
		r = append(r, a[n/len(b)]...)
		out = append(out, append(r, b[n%len(b)]...))
	}
	return out, api.OK
}

func modelGroup(l rows, by []int, aggs []api.Agg) (rows, api.Errno) {
	if err := modelCheck(l); err != api.OK {
		return nil, err
	}
	if len(by)+len(aggs) > 8 {
		return nil, api.ErrMany
	}
	for _, a := range aggs {
		if a.Kind < 1 || a.Kind > 4 {
			return nil, api.ErrKind
		}
	}
	if len(l) > 0 {
		cols := slices.Clone(by)
		for _, a := range aggs {
			if a.Kind != api.Count || a.Col != -1 {
				cols = append(cols, a.Col)
			}
		}
		for _, c := range cols {
			if c < 0 || c >= len(l[0]) {
				return nil, api.ErrRange
			}
		}
	}
	var out rows
	for _, part := range modelParts(l, by) {
		var r []api.Value
		for _, c := range by {
			r = append(r, part[0][c])
		}
		for _, a := range aggs {
			v, err := modelTold(part, a)
			if err != api.OK {
				return nil, err
			}
			r = append(r, v)
		}
		out = append(out, r)
	}
	return out, api.OK
}

// modelParts gives each row to the first part whose first row is the same in the columns of by.
func modelParts(l rows, by []int) []rows {
	if len(by) == 0 {
		return []rows{l}
	}
	var parts []rows
	for _, r := range l {
		i := slices.IndexFunc(parts, func(part rows) bool {
			return !slices.ContainsFunc(by, func(c int) bool { return part[0][c] != r[c] })
		})
		if i < 0 {
			parts = append(parts, rows{r})
		} else {
			parts[i] = append(parts[i], r)
		}
	}
	return parts
}

// modelTold reckons with numbers without end.
func modelTold(part rows, a api.Agg) (api.Value, api.Errno) {
	if a.Kind == api.Count && a.Col == -1 {
		return num(int64(len(part))), api.OK
	}
	var l []api.Value
	for _, r := range part {
		if r[a.Col] != null {
			l = append(l, r[a.Col])
		}
	}
	if a.Kind == api.Count {
		return num(int64(len(l))), api.OK
	}
	if len(l) == 0 {
		return null, api.OK
	}
	if a.Kind == api.Sum {
		sum := new(big.Int)
		for _, v := range l {
			if v.Kind != api.Int {
				return null, api.ErrKind
			}
			sum.Add(sum, big.NewInt(v.N))
		}
		if !sum.IsInt64() {
			return null, api.ErrOver
		}
		return num(sum.Int64()), api.OK
	}
	best := l[0]
	for _, v := range l {
		if a.Kind == api.Min && less(v, best) || a.Kind == api.Max && less(best, v) {
			best = v
		}
	}
	return best, api.OK
}

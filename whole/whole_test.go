package whole

import (
	"math"
	"math/big"
	"math/bits"
	"slices"
	"sync"
	"testing"

	"starling/api"
)

// draw gives numbers for long scripts, the same ones each time.
type draw uint64

func (d *draw) next() uint64 {
	*d = *d*6364136223846793005 + 1442695040888963407
	x := uint64(*d)
	return bits.RotateLeft64(x^x>>29, 23) * 0x9E3779B97F4A7C15
}

func (d *draw) below(n int) int { return int(d.next() >> 11 % uint64(n)) }

// number draws one of any length, near an edge as often as not.
func (d *draw) number() int64 {
	edges := numbers()
	if d.below(2) == 0 {
		return edges[d.below(len(edges))] + int64(d.below(5)-2)
	}
	return int64(d.next()) >> d.below(64)
}

// numbers has those at which something may run over or turn.
func numbers() []int64 {
	ns := []int64{0, 3, 5, 7, 10, 3037000499, 3037000500, math.MaxInt64, math.MaxInt64 - 1, math.MaxInt64 / 2, math.MaxInt64 / 3, math.MaxInt64 / 7}
	for _, shift := range []int{0, 1, 2, 8, 16, 30, 31, 32, 33, 61, 62} {
		ns = append(ns, 1<<shift, 1<<shift-1, 1<<shift+1)
	}
	for _, n := range slices.Clone(ns) {
		ns = append(ns, -n)
	}
	return append(ns, math.MinInt64, math.MinInt64+1)
}

type call struct {
	name string
	ours func(a, b int64) (int64, api.Errno)
	want func(z, a, b *big.Int) *big.Int
	// parted: there is none, if b is 0.
	parted bool
}

func calls() []call {
	return []call{
		{"Add", Add, (*big.Int).Add, false},
		{"Sub", Sub, (*big.Int).Sub, false},
		{"Mul", Mul, (*big.Int).Mul, false},
		{"Div", Div, (*big.Int).Quo, true},
		{"Mod", Mod, (*big.Int).Rem, true},
		{"Neg", func(a, _ int64) (int64, api.Errno) { return Neg(a) }, func(z, a, _ *big.Int) *big.Int { return z.Neg(a) }, false},
	}
}

// within answers a number without end as the calls do.
func within(n *big.Int) (int64, api.Errno) {
	if !n.IsInt64() {
		return 0, api.ErrOver
	}
	return n.Int64(), api.OK
}

func checkCalls(t *testing.T, a, b int64) {
	t.Helper()
	for _, c := range calls() {
		want, wantErr := int64(0), api.ErrZero
		if !c.parted || b != 0 {
			want, wantErr = within(c.want(new(big.Int), big.NewInt(a), big.NewInt(b)))
		}
		if got, err := c.ours(a, b); got != want || err != wantErr {
			t.Errorf("%s(%d, %d) is %d %d, must be %d %d", c.name, a, b, got, err, want, wantErr)
		}
	}
}

func TestEdges(t *testing.T) { // F1, P1
	for _, a := range numbers() {
		for _, b := range numbers() {
			checkCalls(t, a, b)
		}
	}
}

func TestDrawnNumbers(t *testing.T) { // F1
	d := draw(1)
	for range 100000 {
		checkCalls(t, d.number(), d.number())
		if t.Failed() {
			return
		}
	}
}

func TestProductsAtTheEdge(t *testing.T) { // F1: the last one that fits, and the first that does not
	d := draw(2)
	for range 20000 {
		a := d.number()
		if a == 0 || a == -1 {
			continue
		}
		for _, edge := range []int64{math.MaxInt64, math.MinInt64} {
			for more := int64(-2); more <= 2; more++ {
				checkCalls(t, a, edge/a+more)
			}
		}
		if t.Failed() {
			return
		}
	}
}

func TestNamedEdges(t *testing.T) { // F1
	const least, most = math.MinInt64, math.MaxInt64
	for _, c := range []struct {
		name string
		ours func(a, b int64) (int64, api.Errno)
		a, b int64
		want int64
		err  api.Errno
	}{
		{"Add", Add, most, 1, 0, api.ErrOver},
		{"Add", Add, least, -1, 0, api.ErrOver},
		{"Add", Add, most, least, -1, api.OK},
		{"Sub", Sub, 0, least, 0, api.ErrOver},
		{"Sub", Sub, -1, least, most, api.OK},
		{"Sub", Sub, least, least, 0, api.OK},
		{"Mul", Mul, least, -1, 0, api.ErrOver},
		{"Mul", Mul, -1, least, 0, api.ErrOver},
		{"Mul", Mul, least, 0, 0, api.OK},
		{"Mul", Mul, 0, least, 0, api.OK},
		{"Mul", Mul, least, 1, least, api.OK},
		{"Mul", Mul, 1 << 32, 1 << 32, 0, api.ErrOver},
		{"Div", Div, least, -1, 0, api.ErrOver},
		{"Div", Div, least, 0, 0, api.ErrZero},
		{"Div", Div, 0, 0, 0, api.ErrZero},
		{"Div", Div, 7, -2, -3, api.OK},
		{"Div", Div, -7, 2, -3, api.OK},
		{"Div", Div, -7, -2, 3, api.OK},
		{"Div", Div, least, least, 1, api.OK},
		{"Mod", Mod, least, -1, 0, api.OK},
		{"Mod", Mod, least, 0, 0, api.ErrZero},
		{"Mod", Mod, 0, 0, 0, api.ErrZero},
		{"Mod", Mod, 7, -2, 1, api.OK},
		{"Mod", Mod, -7, 2, -1, api.OK},
		{"Mod", Mod, -7, -2, -1, api.OK},
		{"Mod", Mod, most, least, most, api.OK},
	} {
		if got, err := c.ours(c.a, c.b); got != c.want || err != c.err {
			t.Errorf("%s(%d, %d) is %d %d, must be %d %d", c.name, c.a, c.b, got, err, c.want, c.err)
		}
	}
}

func TestDivAndModGoTogether(t *testing.T) { // F3
	d := draw(3)
	for range 100000 {
		a, b := d.number(), d.number()
		if b == 0 || b == -1 && a == math.MinInt64 {
			continue
		}
		div, err := Div(a, b)
		mod, again := Mod(a, b)
		if err != api.OK || again != api.OK {
			t.Fatalf("Div(%d, %d) is %d, Mod is %d", a, b, err, again)
		}
		times, err := Mul(b, div)
		whole, again := Add(times, mod)
		if err != api.OK || again != api.OK || whole != a {
			t.Fatalf("%d times %d and %d are %d (%d %d), must be %d", b, div, mod, whole, err, again, a)
		}
		if mod != 0 && mod < 0 != (a < 0) {
			t.Fatalf("Mod(%d, %d) is %d: another sign", a, b, mod)
		}
	}
}

func sumModel(l []int64) (int64, api.Errno) {
	all := new(big.Int)
	for _, n := range l {
		all.Add(all, big.NewInt(n))
	}
	return within(all)
}

func checkSum(t *testing.T, l []int64) {
	t.Helper()
	want, wantErr := sumModel(l)
	if got, err := Sum(l); got != want || err != wantErr {
		t.Fatalf("Sum(%v) is %d %d, must be %d %d", l, got, err, want, wantErr)
	}
}

func TestSumTells(t *testing.T) { // F2
	const least, most = math.MinInt64, math.MaxInt64
	for _, l := range [][]int64{
		nil, {}, {0}, {7}, {-7}, {least}, {most},
		{most, 1}, {least, -1}, {most, least}, {most, 1, -1}, {1, most, -1}, {least, -1, 1},
		{most, most, least, least, 2}, {most, most, least, least, 1, 1}, {most, most, most, least, least, least, 3, most},
		{most, most, 2}, {most, most, 1, 1}, {least, least}, {least, least, 1}, {least, least, most, most, 1},
		{-1, -1, -1}, {-1, 1, -1, 1}, {1, -1}, {most, -1}, {least, 1}, {-1, most, 1}, {1, least, -1},
	} {
		checkSum(t, l)
	}
	for _, edge := range []int64{least, most, -1, 1} {
		for n := range api.MaxList + 1 {
			checkSum(t, slices.Repeat([]int64{edge}, n))
		}
	}
}

func TestSumsAtTheEdge(t *testing.T) { // F2: parts that run over, a whole that just fits or just does not
	d := draw(4)
	for range 20000 {
		l := make([]int64, d.below(api.MaxList-9))
		all := new(big.Int)
		for i := range l {
			l[i] = d.number()
			all.Add(all, big.NewInt(l[i]))
		}
		edge := big.NewInt([]int64{math.MaxInt64, math.MinInt64}[d.below(2)])
		edge.Add(edge, big.NewInt(int64(d.below(5)-2)))
		rest := edge.Sub(edge, all)
		for len(l) < api.MaxList && rest.Sign() != 0 {
			step := int64(math.MaxInt64)
			if rest.IsInt64() {
				step = rest.Int64()
			} else if rest.Sign() < 0 {
				step = math.MinInt64
			}
			l = append(l, step)
			rest.Sub(rest, big.NewInt(step))
		}
		checkSum(t, l)
	}
}

func TestSumDoesNotHangOnTheOrder(t *testing.T) { // F3
	d := draw(5)
	for range 20000 {
		l := make([]int64, d.below(api.MaxList+1))
		for i := range l {
			l[i] = d.number()
		}
		want, wantErr := Sum(l)
		mixed := slices.Clone(l)
		for i := range mixed {
			k := d.below(i + 1)
			mixed[i], mixed[k] = mixed[k], mixed[i]
		}
		if got, err := Sum(mixed); got != want || err != wantErr {
			t.Fatalf("Sum(%v) is %d %d, and in another order %d %d", l, want, wantErr, got, err)
		}
		slices.Sort(mixed)
		if got, err := Sum(mixed); got != want || err != wantErr {
			t.Fatalf("Sum(%v) is %d %d, and rising %d %d", l, want, wantErr, got, err)
		}
	}
}

func TestSumOfTooMany(t *testing.T) { // F2, P1: ahead of what runs over
	for _, n := range []int{api.MaxList + 1, api.MaxList + 2, 1 << 16} {
		for _, part := range []int64{0, 1, math.MaxInt64, math.MinInt64} {
			if got, err := Sum(slices.Repeat([]int64{part}, n)); got != 0 || err != api.ErrMany {
				t.Errorf("Sum of %d times %d is %d %d, must be 0 2", n, part, got, err)
			}
		}
	}
	if got, err := Sum(slices.Repeat([]int64{3}, api.MaxList)); got != 3*api.MaxList || err != api.OK {
		t.Errorf("Sum of as many as may be is %d %d", got, err)
	}
}

func TestListsAreOnlyRead(t *testing.T) { // P2
	room := []int64{5, math.MaxInt64, 1, 9, 9}
	kept := slices.Clone(room)
	if got, err := Sum(room[:3]); got != 0 || err != api.ErrOver {
		t.Errorf("Sum is %d %d, must be 0 8", got, err)
	}
	if got, err := Sum(room[2:3]); got != 1 || err != api.OK {
		t.Errorf("Sum is %d %d, must be 1 0", got, err)
	}
	if !slices.Equal(room, kept) {
		t.Errorf("the list has become %v, and was %v", room, kept)
	}
}

func TestNothingIsRemembered(t *testing.T) { // P3
	ns := numbers()
	var hands sync.WaitGroup
	for hand := range 4 {
		hands.Go(func() {
			for i := range ns {
				if hand%2 == 1 {
					i = len(ns) - 1 - i
				}
				Div(ns[i], 0)
				Sum([]int64{math.MaxInt64, math.MaxInt64})
				if got, err := Sum([]int64{ns[i], 0}); got != ns[i] || err != api.OK {
					t.Errorf("Sum of %d and 0 is %d %d", ns[i], got, err)
				}
				if got, err := Add(ns[i], 0); got != ns[i] || err != api.OK {
					t.Errorf("Add(%d, 0) is %d %d", ns[i], got, err)
				}
			}
		})
	}
	hands.Wait()
}

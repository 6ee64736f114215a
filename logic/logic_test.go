package logic

import (
	"math"
	"math/bits"
	"slices"
	"strings"
	"sync"
	"testing"

	"starling/api"
)

// draw gives numbers for long scripts, the same ones each time.
type draw uint64

func (d *draw) next() uint64 {
	*d = *d*6364136223846793005 + 1442695040888963407
	x := uint64(*d)
	return bits.RotateLeft64(x^x>>29, 23) * 0x9E3779B97F4A7C15
}

func (d *draw) below(n int) int { return int(d.next() >> 11 % uint64(n)) }

func whole(n int64) api.Value { return api.Value{Kind: api.Int, N: n} }
func text(s string) api.Value { return api.Value{Kind: api.Text, S: s} }
func blob(s string) api.Value { return api.Value{Kind: api.Blob, S: s} }
func long(n int) string       { return strings.Repeat("w", n) }

// numbers has the truth values, and numbers that are none.
func numbers() []int {
	return []int{api.False, api.Unknown, api.True, -1, 3, 4, -2, 256, 258, 1 << 32, 1<<32 + 2, math.MaxInt, math.MinInt}
}

// meant is what a number stands for.
func meant(a int) int {
	switch a {
	case 0, 2:
		return a
	}
	return 1
}

// values has right values in the order of the document, the Null first.
func values() []api.Value {
	return []api.Value{
		{},
		whole(math.MinInt64), whole(-1), whole(0), whole(1), whole(2), whole(math.MaxInt64),
		text(""), text("\x00"), text("a"), text("a\x00"), text("b"), text(long(api.MaxText)), text("\xff"),
		blob(""), blob("a"), blob("\xff"), blob(strings.Repeat("\xff", api.MaxText)),
	}
}

type fault struct {
	v   api.Value
	err api.Errno
}

func faults() []fault {
	tooLong := long(api.MaxText + 1)
	return []fault{
		{api.Value{Kind: -1}, api.ErrKind},
		{api.Value{Kind: 4}, api.ErrKind},
		{api.Value{Kind: 7, N: 1, S: tooLong}, api.ErrKind},
		{api.Value{N: 1}, api.ErrForm},
		{api.Value{S: "a"}, api.ErrForm},
		{api.Value{Kind: api.Int, S: "a"}, api.ErrForm},
		{api.Value{Kind: api.Text, N: 1, S: tooLong}, api.ErrForm},
		{text(tooLong), api.ErrMany},
		{blob(tooLong), api.ErrMany},
	}
}

// model tells of two places among values whether the one is less, and whether they are the same.
func model(i, k int) (less, same int) {
	switch {
	case i == 0 || k == 0:
		return api.Unknown, api.Unknown
	case i < k:
		return api.True, api.False
	case i == k:
		return api.False, api.True
	}
	return api.False, api.False
}

func TestTheTruthValuesAreInOrder(t *testing.T) { // E1
	if api.False != 0 || api.Unknown != 1 || api.True != 2 {
		t.Errorf("the truth values are %d %d %d", api.False, api.Unknown, api.True)
	}
}

func TestAndOrTell(t *testing.T) { // E1
	and := [3][3]int{{0, 0, 0}, {0, 1, 1}, {0, 1, 2}}
	or := [3][3]int{{0, 1, 2}, {1, 1, 2}, {2, 2, 2}}
	for _, a := range numbers() {
		for _, b := range numbers() {
			if got, want := And(a, b), and[meant(a)][meant(b)]; got != want {
				t.Errorf("And(%d, %d) is %d, must be %d", a, b, got, want)
			}
			if got, want := Or(a, b), or[meant(a)][meant(b)]; got != want {
				t.Errorf("Or(%d, %d) is %d, must be %d", a, b, got, want)
			}
		}
	}
}

func TestNotTells(t *testing.T) { // E1
	for _, a := range numbers() {
		if got, want := Not(a), [3]int{2, 1, 0}[meant(a)]; got != want {
			t.Errorf("Not(%d) is %d, must be %d", a, got, want)
		}
	}
}

func TestAllAnyTell(t *testing.T) { // E1
	for _, l := range [][]int{nil, {}} {
		if got := All(l); got != api.True {
			t.Errorf("All of none is %d, must be 2", got)
		}
		if got := Any(l); got != api.False {
			t.Errorf("Any of none is %d, must be 0", got)
		}
	}
	d := draw(1)
	for range 20000 {
		l := make([]int, 1+d.below(6))
		least, greatest := 2, 0
		for i := range l {
			l[i] = numbers()[d.below(1+d.below(len(numbers())))]
			least = min(least, meant(l[i]))
			greatest = max(greatest, meant(l[i]))
		}
		if got := All(l); got != least {
			t.Fatalf("All(%v) is %d, must be %d", l, got, least)
		}
		if got := Any(l); got != greatest {
			t.Fatalf("Any(%v) is %d, must be %d", l, got, greatest)
		}
	}
}

func TestAllAnyOfOne(t *testing.T) { // E1: a number that is no truth value is none that comes out
	for _, a := range numbers() {
		if all, some := All([]int{a}), Any([]int{a}); all != meant(a) || some != meant(a) {
			t.Errorf("All and Any of %d are %d %d, must be %d", a, all, some, meant(a))
		}
	}
}

func TestLongLists(t *testing.T) { // E1, P1, P4: no limit is named
	const many = 1 << 20
	l := slices.Repeat([]int{api.True}, many)
	if got := All(l); got != api.True {
		t.Errorf("All of many True is %d", got)
	}
	l[many-1] = api.False
	if got := All(l); got != api.False {
		t.Errorf("All of many True and a False at the end is %d", got)
	}
	l = slices.Repeat([]int{api.False}, many)
	if got := Any(l); got != api.False {
		t.Errorf("Any of many False is %d", got)
	}
	l[many-1] = 7
	if got := Any(l); got != api.Unknown {
		t.Errorf("Any of many False and a 7 at the end is %d", got)
	}
}

func TestLessSameTell(t *testing.T) { // E2
	vs := values()
	for i, a := range vs {
		for k, b := range vs {
			less, same := model(i, k)
			if got, err := Less(a, b); got != less || err != api.OK {
				t.Errorf("Less(%v, %v) is %d %d, must be %d 0", a, b, got, err, less)
			}
			if got, err := Same(a, b); got != same || err != api.OK {
				t.Errorf("Same(%v, %v) is %d %d, must be %d 0", a, b, got, err, same)
			}
		}
	}
}

// betweenModel: neither is v less than low nor high less than v, as far as is known.
func betweenModel(v, low, high int) int {
	below, _ := model(v, low)
	above, _ := model(high, v)
	switch {
	case below == api.True || above == api.True:
		return api.False
	case below == api.Unknown || above == api.Unknown:
		return api.Unknown
	}
	return api.True
}

func TestBetweenTells(t *testing.T) { // E2
	vs := values()
	for i, v := range vs {
		for k, low := range vs {
			for j, high := range vs {
				want := betweenModel(i, k, j)
				if got, err := Between(v, low, high); got != want || err != api.OK {
					t.Errorf("Between(%v, %v, %v) is %d %d, must be %d 0", v, low, high, got, err, want)
				}
			}
		}
	}
}

func TestBetweenOfNulls(t *testing.T) { // E2: one end may settle it
	null := api.Value{}
	for _, c := range []struct {
		v, low, high api.Value
		want         int
	}{
		{whole(1), whole(1), whole(1), api.True},
		{whole(1), whole(2), null, api.False},
		{whole(3), null, whole(2), api.False},
		{whole(2), whole(1), null, api.Unknown},
		{whole(2), null, whole(3), api.Unknown},
		{null, whole(2), whole(1), api.Unknown},
		{null, null, null, api.Unknown},
		{whole(2), whole(3), whole(1), api.False},
		{text("a"), whole(1), blob(""), api.True},
	} {
		if got, err := Between(c.v, c.low, c.high); got != c.want || err != api.OK {
			t.Errorf("Between(%v, %v, %v) is %d %d, must be %d 0", c.v, c.low, c.high, got, err, c.want)
		}
	}
}

func inModel(v int, l []int) int {
	want := api.False
	for _, w := range l {
		_, same := model(v, w)
		want = max(want, same)
	}
	return want
}

func TestInTells(t *testing.T) { // E2
	vs := values()
	d := draw(2)
	for n := range api.MaxList + 1 {
		for range 200 {
			most := 1 + d.below(len(vs))
			places := make([]int, n)
			l := make([]api.Value, n)
			for i := range l {
				places[i] = d.below(most)
				if d.below(8) != 0 {
					places[i] = max(1, places[i])
				}
				l[i] = vs[places[i]]
			}
			at := d.below(len(vs))
			want := inModel(at, places)
			if got, err := In(vs[at], l); got != want || err != api.OK {
				t.Fatalf("In(%v, %v) is %d %d, must be %d 0", vs[at], l, got, err, want)
			}
		}
	}
}

func TestInOfNothing(t *testing.T) { // E2, P2: a Null is in no empty list either
	for _, v := range values() {
		for _, l := range [][]api.Value{nil, {}} {
			if got, err := In(v, l); got != api.False || err != api.OK {
				t.Errorf("In(%v) of nothing is %d %d, must be 0 0", v, got, err)
			}
		}
	}
}

func TestInFindsAtEachPlace(t *testing.T) { // E2
	for at := range api.MaxList {
		l := slices.Repeat([]api.Value{whole(1)}, api.MaxList)
		l[at] = text("wren")
		if got, err := In(text("wren"), l); got != api.True || err != api.OK {
			t.Errorf("In with the value at %d is %d %d", at, got, err)
		}
		l[at] = api.Value{}
		if got, err := In(text("wren"), l); got != api.Unknown || err != api.OK {
			t.Errorf("In with a Null at %d is %d %d", at, got, err)
		}
		if got, err := In(whole(1), l); got != api.True || err != api.OK {
			t.Errorf("In with a Null at %d among the same is %d %d", at, got, err)
		}
	}
}

func TestTwoWrongValues(t *testing.T) { // E2, P1: in the order in which they are handed in
	for _, f := range faults() {
		others := append(faults(), fault{}, fault{v: whole(1)})
		for _, g := range others {
			if got, err := Less(f.v, g.v); got != 0 || err != f.err {
				t.Errorf("Less(%v, %v) is %d %d, must be 0 %d", f.v, g.v, got, err, f.err)
			}
			if got, err := Same(f.v, g.v); got != 0 || err != f.err {
				t.Errorf("Same(%v, %v) is %d %d, must be 0 %d", f.v, g.v, got, err, f.err)
			}
		}
		for _, v := range values() {
			if got, err := Less(v, f.v); got != 0 || err != f.err {
				t.Errorf("Less(%v, %v) is %d %d, must be 0 %d", v, f.v, got, err, f.err)
			}
			if got, err := Same(v, f.v); got != 0 || err != f.err {
				t.Errorf("Same(%v, %v) is %d %d, must be 0 %d", v, f.v, got, err, f.err)
			}
		}
	}
}

func TestBetweenOfWrongValues(t *testing.T) { // E2, P1
	all := faults()
	for _, v := range values() {
		all = append(all, fault{v: v})
	}
	for _, v := range all {
		for _, low := range all {
			for _, high := range all {
				want := v.err
				if want == api.OK {
					want = low.err
				}
				if want == api.OK {
					want = high.err
				}
				got, err := Between(v.v, low.v, high.v)
				if err != want || err != api.OK && got != 0 {
					t.Errorf("Between(%v, %v, %v) is %d %d, its error must be %d", v.v, low.v, high.v, got, err, want)
				}
			}
		}
	}
}

func TestInOfTooMany(t *testing.T) { // E2, P1: ahead of what is wrong with values
	wrong := api.Value{Kind: 9}
	many := make([]api.Value, api.MaxList+1)
	manyAndWrong := slices.Repeat([]api.Value{wrong}, api.MaxList+1)
	for _, v := range []api.Value{{}, whole(1), wrong, {N: 1}} {
		for _, l := range [][]api.Value{many, manyAndWrong, make([]api.Value, 1<<16)} {
			if got, err := In(v, l); got != 0 || err != api.ErrMany {
				t.Errorf("In(%v) of %d is %d %d, must be 0 2", v, len(l), got, err)
			}
		}
	}
	if got, err := In(whole(1), many[:api.MaxList]); got != api.Unknown || err != api.OK {
		t.Errorf("In of as many as may be is %d %d, must be 1 0", got, err)
	}
}

func TestInOfWrongValues(t *testing.T) { // E2, P1
	for _, f := range faults() {
		if got, err := In(f.v, nil); got != 0 || err != f.err {
			t.Errorf("In(%v) of nothing is %d %d, must be 0 %d", f.v, got, err, f.err)
		}
		for at := range api.MaxList {
			l := slices.Repeat([]api.Value{whole(1)}, api.MaxList)
			l[at] = f.v
			// That it is found ahead of the wrong value does not hide that one.
			if got, err := In(whole(1), l); got != 0 || err != f.err {
				t.Errorf("In with %v at %d is %d %d, must be 0 %d", f.v, at, got, err, f.err)
			}
		}
		for _, g := range faults() {
			if got, err := In(f.v, []api.Value{g.v}); got != 0 || err != f.err {
				t.Errorf("In(%v, %v) is %d %d, must be 0 %d", f.v, g.v, got, err, f.err)
			}
			if got, err := In(whole(1), []api.Value{{}, f.v, g.v}); got != 0 || err != f.err {
				t.Errorf("In of %v and %v is %d %d, must be 0 %d", f.v, g.v, got, err, f.err)
			}
		}
	}
}

func TestNobodySaysOtherwiseOfTruthValues(t *testing.T) { // E3
	stays := func(name string, told, later int) {
		t.Helper()
		if told != api.Unknown && told != later {
			t.Errorf("%s was told to be %d, and is %d for one who knows more", name, told, later)
		}
	}
	more := func(a int) []int {
		if a == api.Unknown {
			return []int{api.False, api.Unknown, api.True}
		}
		return []int{a}
	}
	for a := range 3 {
		for _, x := range more(a) {
			stays("Not", Not(a), Not(x))
			for b := range 3 {
				for _, y := range more(b) {
					stays("And", And(a, b), And(x, y))
					stays("Or", Or(a, b), Or(x, y))
					stays("All", All([]int{a, b, 2}), All([]int{x, y, 2}))
					stays("Any", Any([]int{a, 0, b}), Any([]int{x, 0, y}))
				}
			}
		}
	}
}

func TestNobodySaysOtherwiseOfValues(t *testing.T) { // E3
	vs := values()
	d := draw(3)
	more := func(v api.Value) api.Value {
		if v.Kind == api.Null {
			return vs[d.below(len(vs))]
		}
		return v
	}
	some := func() api.Value {
		if d.below(3) == 0 {
			return api.Value{}
		}
		return vs[d.below(5)]
	}
	stays := func(name string, told, later int, err, then api.Errno) {
		t.Helper()
		if err != api.OK || then != api.OK || told != api.Unknown && told != later {
			t.Fatalf("%s was told to be %d %d, and is %d %d for one who knows more", name, told, err, later, then)
		}
	}
	for range 50000 {
		a, b, c := some(), some(), some()
		x, y, z := more(a), more(b), more(c)
		told, err := Less(a, b)
		later, then := Less(x, y)
		stays("Less", told, later, err, then)
		told, err = Same(a, b)
		later, then = Same(x, y)
		stays("Same", told, later, err, then)
		told, err = Between(a, b, c)
		later, then = Between(x, y, z)
		stays("Between", told, later, err, then)
		told, err = In(a, []api.Value{b, c})
		later, then = In(x, []api.Value{y, z})
		stays("In", told, later, err, then)
	}
}

func TestListsAreOnlyRead(t *testing.T) { // P2
	truths := []int{7, 2, 0, -1, 9, 9}
	keptTruths := slices.Clone(truths)
	All(truths[:3])
	Any(truths[:3])
	if !slices.Equal(truths, keptTruths) {
		t.Errorf("the list has become %v, and was %v", truths, keptTruths)
	}
	room := []api.Value{text("b"), whole(2), {}, whole(1), text("spare"), whole(9)}
	kept := slices.Clone(room)
	In(whole(9), room[:4])
	In(api.Value{Kind: 9}, room[:4])
	if !slices.Equal(room, kept) {
		t.Errorf("the list has become %v, and was %v", room, kept)
	}
	if got, err := In(text("spare"), room[3:4]); got != api.False || err != api.OK {
		t.Errorf("what stands behind a list is found in it: %d %d", got, err)
	}
}

func TestNothingIsRemembered(t *testing.T) { // P3
	vs := values()
	var hands sync.WaitGroup
	for hand := range 4 {
		hands.Go(func() {
			for i := range vs {
				if hand%2 == 1 {
					i = len(vs) - 1 - i
				}
				Less(vs[i], api.Value{Kind: 9})
				for k := range vs {
					less, same := model(i, k)
					if got, err := Less(vs[i], vs[k]); got != less || err != api.OK {
						t.Errorf("Less(%v, %v) is %d %d", vs[i], vs[k], got, err)
					}
					if got, err := In(vs[i], vs[k:k+1]); got != same || err != api.OK {
						t.Errorf("In(%v, %v) is %d %d", vs[i], vs[k:k+1], got, err)
					}
				}
			}
		})
	}
	hands.Wait()
}

package opened

import (
	"math"
	"reflect"
	"slices"
	"strings"
	"testing"

	"starling/api"
	"starling/num"
	"starling/page"
)

// sealed tells a page that must be right as bytes.
func sealed(no, kind, owner int, body string) string {
	s, err := page.Seal(api.Page{No: no, Kind: kind, Owner: owner, Body: body})
	if err != api.OK {
		panic(err)
	}
	return s
}

func numbers(l ...uint64) string {
	var s string
	for _, n := range l {
		s += num.Write(n)
	}
	return s
}

// U1, U2: a head's Body is its numbers, and is read as the head that it was.
func TestBody(t *testing.T) {
	for _, c := range []struct {
		head Head
		want string
	}{
		{Head{Next: 1}, "\x01\x00\x00"}, {Head{Next: 1000, FormPages: 14, RowPages: []int{1}}, "\xe8\x07\x0e\x01\x01"}, {Head{Next: 9, FormPages: 1, RowPages: []int{2, 0, 3}}, "\x09\x01\x03\x02\x00\x03"}, {Head{Next: 128, RowPages: []int{29}}, "\x80\x01\x00\x01\x1d"}, {Head{Next: 7, RowPages: make([]int, 6)}, "\x07\x00\x06\x00\x00\x00\x00\x00\x00"},
	} {
		if got := c.head.Body(); got != c.want {
			t.Errorf("%v: %x; want %x", c.head, got, c.want)
		}
		if got := headOf(c.want); !reflect.DeepEqual(got, c.head) || !got.IsRight() {
			t.Errorf("%x: %v; want %v", c.want, got, c.head)
		}
	}
}

// U2: what is not right is no head: each number at its limit and beyond it, a number too few, one too many, one that has another text.
func TestNoHead(t *testing.T) {
	for _, body := range []string{
		"", numbers(1), numbers(1, 0), numbers(0, 0, 0), numbers(1001, 0, 0), numbers(math.MaxUint64, 0, 0), numbers(1, 15, 0), numbers(1, 33, 0), numbers(1, 1<<63, 0), numbers(1, math.MaxUint64, 0), numbers(1, 0, 1), numbers(1, 0, 0, 0), numbers(1, 0, 7, 0, 0, 0, 0, 0, 0, 0), numbers(1, 0, math.MaxUint64), numbers(1, 0, 1, 30), numbers(1, 0, 1, 33), numbers(1, 0, 2, 1<<63, 1<<63), numbers(1, 14, 1, 2), "\x81\x00\x00\x00", "\x01\x00\x00\x80", strings.Repeat("\x00", 245), strings.Repeat("\xff", 245),
	} {
		if h := headOf(body); h.IsRight() {
			t.Errorf("%x: %v", body, h)
		}
	}
}

// U1: where the rows of each table begin, and how many pages there are.
func TestRowsAt(t *testing.T) {
	h := Head{Next: 9, FormPages: 3, RowPages: []int{2, 0, 5, 1}}
	var got []int
	for i := range 5 {
		got = append(got, h.RowsAt(i))
	}
	if want := []int{8, 10, 10, 15, 16}; !slices.Equal(got, want) {
		t.Errorf("%v; want %v", got, want)
	}
	if at := (Head{}).RowsAt(0); at != 2 {
		t.Errorf("%d", at)
	}
}

// U2, V1: pages that can be opened stand at their places, and no others; the first head that is right counts.
func TestOf(t *testing.T) {
	leaf, one, two := sealed(2, api.Leaf, 5, "x"), numbers(1, 0, 0), numbers(2, 0, 0)
	for i, c := range []struct {
		texts []string
		next  int
		kinds []int
	}{
		{nil, 0, nil}, {make([]string, 32), 0, nil}, {[]string{sealed(0, api.Head, 0, one)}, 1, []int{1}}, {[]string{sealed(0, api.Head, 0, two), sealed(1, api.Head, 0, one), leaf}, 2, []int{1, 1, 4}}, {[]string{"", sealed(1, api.Head, 0, one), leaf}, 1, []int{0, 1, 4}}, {[]string{sealed(0, api.Head, 0, ""), sealed(1, api.Head, 0, one)}, 1, []int{1, 1}}, {[]string{sealed(0, api.Head, 1, two), sealed(1, api.Head, 0, one)}, 1, []int{1, 1}}, {[]string{sealed(0, api.CatA, 0, two), sealed(1, api.Leaf, 0, one)}, 0, []int{2, 4}}, {[]string{sealed(1, api.Head, 0, two), leaf, sealed(2, api.Head, 0, two)}, 0, []int{0, 0, 1}},
	} {
		f, err := Of(c.texts)
		if err != api.OK || f.Next != c.next || f.IsRight() != (c.next > 0) {
			t.Fatalf("%d: %v, %d", i, f, err)
		}
		for no, p := range f.Pages {
			want := append(slices.Clone(c.kinds), make([]int, 32)...)[no]
			if p.Kind != want || want == 0 && p != (api.Page{}) || want != 0 && p.No != no {
				t.Errorf("%d: at %d stands %v; want kind %d", i, no, p, want)
			}
		}
	}
	if f, err := Of(make([]string, 33)); err != api.ErrMany || f != nil {
		t.Errorf("%v, %d", f, err)
	}
	f, _ := Of([]string{"", "", leaf})
	if f.Pages[2] != (api.Page{No: 2, Kind: api.Leaf, Owner: 5, Body: "x"}) {
		t.Errorf("%v", f.Pages[2])
	}
}

// U2: a page is of a kind and an Owner, if it is of both.
func TestIsOf(t *testing.T) {
	p := api.Page{Kind: api.Leaf, Owner: 3}
	if !IsOf(p, api.Leaf, 3) || IsOf(p, api.Leaf, 0) || IsOf(p, api.CatA, 3) || IsOf(api.Page{}, api.Head, 0) {
		t.Error("a page is not told by its kind and its Owner")
	}
}

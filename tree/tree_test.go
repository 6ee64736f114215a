package tree

import (
	"math"
	"slices"
	"strings"
	"sync"
	"testing"

	"starling/api"
)

// leaves parts words into leaves, with a / between two; each pair's Id is its place.
func leaves(s string) [][]api.Pair {
	var out [][]api.Pair
	id := int64(0)
	for part := range strings.SplitSeq(s, "/") {
		leaf := []api.Pair{}
		for word := range strings.FieldsSeq(part) {
			leaf = append(leaf, api.Pair{Key: word, Id: id})
			id++
		}
		out = append(out, leaf)
	}
	return out
}

// words goes back from what leaves tells.
func words(x api.Tree) string {
	var parts []string
	for _, leaf := range x.Leaves {
		var keys []string
		for _, p := range leaf {
			keys = append(keys, p.Key)
		}
		parts = append(parts, strings.Join(keys, " "))
	}
	return strings.Join(parts, "/")
}

func up(levels ...[]int) [][]int { return levels }

func long(n int) string { return strings.Repeat("k", n) }

// even has so many leaves of two pairs, and all levels that they can bear.
func even(n int) api.Tree {
	x := treeOf(slices.Repeat([]int{2}, n), nil)
	for ; n > 1; n /= 2 {
		x.Up = append(x.Up, slices.Repeat([]int{2}, n/2))
	}
	for i := range x.Leaves {
		for k := range x.Leaves[i] {
			n := 2*i + k
			x.Leaves[i][k].Key = string([]byte{byte(n / 10), byte(n % 10)})
		}
	}
	return x
}

// N1: limits and one beyond them, and each error where its order has it. Whatever is wrong with a tree, each call tells it first.
func TestCheck(t *testing.T) {
	pair := func(keys ...string) (l []api.Pair) {
		for _, k := range keys {
			l = append(l, api.Pair{Key: k})
		}
		return l
	}
	nine := make([][]int, 9)
	more := even(32)
	more.Leaves[31] = append(more.Leaves[31], api.Pair{Key: "\xff"})
	for i, c := range []struct {
		x    api.Tree
		want api.Errno
	}{
		{api.Tree{}, 0}, {api.Tree{Leaves: [][]api.Pair{}, Up: [][]int{}}, 0},
		{api.Tree{Leaves: leaves("a")}, 0}, {api.Tree{Leaves: leaves("a b c d")}, 0}, {api.Tree{Leaves: leaves("a b c d e")}, api.ErrForm}, {api.Tree{Leaves: leaves("")}, api.ErrForm},
		{api.Tree{Leaves: leaves("a b/c d"), Up: up([]int{2})}, 0}, {api.Tree{Leaves: leaves("a b c d/e f g h"), Up: up([]int{2})}, 0}, {api.Tree{Leaves: leaves("a/c d"), Up: up([]int{2})}, api.ErrForm}, {api.Tree{Leaves: leaves("a b/c"), Up: up([]int{2})}, api.ErrForm}, {api.Tree{Leaves: leaves("a b/c d e f g"), Up: up([]int{2})}, api.ErrForm}, {api.Tree{Leaves: leaves("a b/"), Up: up([]int{2})}, api.ErrForm}, {api.Tree{Leaves: leaves("/a b"), Up: up([]int{2})}, api.ErrForm},
		{api.Tree{Leaves: leaves("a a")}, api.ErrState}, {api.Tree{Leaves: leaves("b a")}, api.ErrState}, {api.Tree{Leaves: leaves("a b c c")}, api.ErrState}, {api.Tree{Leaves: leaves("a b/b c"), Up: up([]int{2})}, api.ErrState}, {api.Tree{Leaves: leaves("a c/b d"), Up: up([]int{2})}, api.ErrState}, {api.Tree{Leaves: leaves("a b/c c"), Up: up([]int{2})}, api.ErrState}, {api.Tree{Leaves: leaves("a ab/b ba"), Up: up([]int{2})}, 0}, {api.Tree{Leaves: leaves("ab a")}, api.ErrState},
		{api.Tree{Leaves: [][]api.Pair{pair("", "\x00", "\x00\x00", "\x01")}}, 0}, {api.Tree{Leaves: [][]api.Pair{pair("", "")}}, api.ErrState}, {api.Tree{Leaves: [][]api.Pair{pair("a", "")}}, api.ErrState}, {api.Tree{Leaves: [][]api.Pair{pair("\x7f", "\x80", "\xff")}}, 0}, {api.Tree{Leaves: [][]api.Pair{pair("\xff", "\x7f")}}, api.ErrState}, {api.Tree{Leaves: [][]api.Pair{pair("Z", "a")}}, 0},
		{api.Tree{Leaves: [][]api.Pair{pair(long(40))}}, 0}, {api.Tree{Leaves: [][]api.Pair{pair(long(41))}}, api.ErrMany}, {api.Tree{Leaves: [][]api.Pair{pair("z", long(41))}}, api.ErrMany}, {api.Tree{Leaves: [][]api.Pair{pair("z", "a", long(41))}}, api.ErrState}, {api.Tree{Leaves: [][]api.Pair{pair("a", "b", "c", "d", long(41))}}, api.ErrForm},
		{api.Tree{Leaves: [][]api.Pair{pair("a", long(41)), nil}, Up: up([]int{2})}, api.ErrMany}, {api.Tree{Leaves: [][]api.Pair{pair("b", "a"), nil}, Up: up([]int{2})}, api.ErrState}, {api.Tree{Leaves: [][]api.Pair{nil, pair("b", "a")}, Up: up([]int{2})}, api.ErrForm}, {api.Tree{Leaves: [][]api.Pair{pair("b", "a"), pair("c", "d")}, Up: up([]int{9})}, api.ErrState}, {api.Tree{Leaves: [][]api.Pair{pair("b", long(41)), pair("c", "d")}}, api.ErrMany},
		{api.Tree{Leaves: leaves("a b/c d")}, api.ErrForm}, {api.Tree{Leaves: leaves("a b"), Up: up([]int{})}, api.ErrForm}, {api.Tree{Leaves: leaves("a b"), Up: up([]int{1})}, api.ErrForm}, {api.Tree{Leaves: leaves("a b"), Up: up([]int{2})}, api.ErrForm}, {api.Tree{Up: up(nil)}, api.ErrForm}, {api.Tree{Up: up([]int{0})}, api.ErrForm}, {api.Tree{Up: up([]int{2})}, api.ErrForm}, {api.Tree{Leaves: leaves("a b/c d"), Up: up(nil)}, api.ErrForm},
		{api.Tree{Leaves: leaves("a b/c d"), Up: up([]int{3})}, api.ErrForm}, {api.Tree{Leaves: leaves("a b/c d/e f"), Up: up([]int{2})}, api.ErrForm}, {api.Tree{Leaves: leaves("a b/c d/e f"), Up: up([]int{3})}, 0}, {api.Tree{Leaves: leaves("a b/c d/e f/g h"), Up: up([]int{4})}, 0}, {api.Tree{Leaves: leaves("a b/c d/e f/g h/i j"), Up: up([]int{5})}, api.ErrForm}, {api.Tree{Leaves: leaves("a b/c d/e f/g h/i j"), Up: up([]int{2, 3}, []int{2})}, 0}, {api.Tree{Leaves: leaves("a b/c d/e f/g h/i j"), Up: up([]int{4, 1}, []int{2})}, api.ErrForm}, {api.Tree{Leaves: leaves("a b/c d/e f/g h"), Up: up([]int{4, 0}, []int{2})}, api.ErrForm}, {api.Tree{Leaves: leaves("a b/c d/e f/g h"), Up: up([]int{2, 4, -2}, []int{3})}, api.ErrForm}, {api.Tree{Leaves: leaves("a b/c d/e f/g h"), Up: up([]int{2, 2})}, api.ErrForm}, {api.Tree{Leaves: leaves("a b/c d/e f/g h"), Up: up([]int{2, 2}, []int{2}, []int{1})}, api.ErrForm}, {api.Tree{Leaves: leaves("a b/c d/e f/g h"), Up: up([]int{2, 2}, []int{2}, nil)}, api.ErrForm}, {api.Tree{Leaves: leaves("a b/c d/e f/g h"), Up: up([]int{2, 2}, []int{3})}, api.ErrForm}, {api.Tree{Leaves: leaves("a b/c d/e f/g h"), Up: up([]int{2}, []int{2, 2})}, api.ErrForm}, {api.Tree{Leaves: leaves("a b/c d"), Up: up([]int{math.MaxInt, math.MinInt, 3})}, api.ErrForm},
		{even(32), 0}, {more, api.ErrMany}, {even(64), api.ErrMany}, {api.Tree{Leaves: even(64).Leaves}, api.ErrForm}, {api.Tree{Leaves: make([][]api.Pair, 64)}, api.ErrForm}, {api.Tree{Leaves: make([][]api.Pair, 65)}, api.ErrMany}, {api.Tree{Up: nine[:8]}, api.ErrForm}, {api.Tree{Up: nine}, api.ErrMany}, {api.Tree{Leaves: leaves("b a"), Up: nine}, api.ErrMany}, {api.Tree{Leaves: leaves("b a"), Up: nine[:8]}, api.ErrState}, {api.Tree{Leaves: leaves("a"), Up: nine[:8]}, api.ErrForm},
	} {
		if err := holdRead(t, c.x, long(41), ""); err != c.want {
			t.Errorf("%d: %d; want %d", i, err, c.want)
		}
		_, inserted := holdInsert(t, c.x, long(41), 1)
		_, deleted := holdDelete(t, c.x, long(41))
		if c.want != api.OK && (inserted != c.want || deleted != c.want) || c.want == api.OK && (inserted != api.ErrMany || deleted != api.ErrNone) {
			t.Errorf("%d: %d, %d", i, inserted, deleted)
		}
		holdInsert(t, c.x, "bb", 1)
		holdDelete(t, c.x, "a")
	}
}

// N2: keys that are there and that aren't, at both ends and in the midst.
func TestRead(t *testing.T) {
	x := api.Tree{Leaves: leaves("b d/f h j/l n"), Up: up([]int{3})}
	for i, k := range strings.Fields("b d f h j l n") {
		if id, found, err := Find(x, k); id != int64(i) || !found || err != api.OK {
			t.Errorf("Find %s: %d, %v, %d", k, id, found, err)
		}
	}
	for _, k := range []string{"", "a", "bb", "c", "e", "g", "i", "k", "m", "o", "zz", "B", long(40)} {
		if id, found, err := Find(x, k); id != 0 || found || err != api.OK {
			t.Errorf("Find %s: %d, %v, %d", k, id, found, err)
		}
	}
	if _, _, err := Find(x, long(41)); err != api.ErrMany {
		t.Errorf("%d", err)
	}
	all := slices.Concat(x.Leaves...)
	for _, c := range []struct {
		low, high    string
		from, behind int
	}{
		{"", "z", 0, 7}, {"b", "n", 0, 7}, {"c", "m", 1, 6}, {"d", "l", 1, 6}, {"d", "d", 1, 2}, {"e", "e", 0, 0}, {"n", "b", 0, 0}, {"", "", 0, 0}, {"a", "b", 0, 1}, {"n", "n", 6, 7}, {"n", "", 0, 0}, {"o", "z", 0, 0}, {"", "a", 0, 0}, {"h", long(100), 3, 5}, {long(100), "z", 5, 7}, {long(100), long(200), 0, 0}, {"ba", "nz", 1, 7},
	} {
		holdRead(t, x, c.low, c.high)
		if l, err := Range(x, c.low, c.high); !slices.Equal(l, all[c.from:c.behind]) || err != api.OK {
			t.Errorf("Range %s %s: %v, %d", c.low, c.high, l, err)
		}
	}
	if l, err := List(x); !slices.Equal(l, all) || err != api.OK {
		t.Errorf("%v, %d", l, err)
	}
	for _, k := range []string{"", "a", long(40), long(41)} {
		holdRead(t, api.Tree{}, k, "z")
	}
	empty := api.Tree{Leaves: [][]api.Pair{{{Key: "", Id: math.MinInt64}}}}
	if id, found, err := Find(empty, ""); id != math.MinInt64 || !found || err != api.OK {
		t.Errorf("%d, %v, %d", id, found, err)
	}
	if l, err := Range(empty, "", ""); len(l) != 1 || err != api.OK {
		t.Errorf("%v, %d", l, err)
	}
}

// N2: all right trees of up to 12 pairs, all keys and all ranges between two of them.
func TestReadAll(t *testing.T) {
	for n := range 13 {
		for _, x := range allTrees(n) {
			for low := range n + 1 {
				for _, k := range []string{key(low), key(low) + "a"} {
					for high := range n + 1 {
						holdRead(t, x, k, key(high))
						holdRead(t, x, k, key(high)+"a")
					}
				}
			}
		}
	}
}

// N3: what becomes of a tree, written out.
func TestInsert(t *testing.T) {
	for _, c := range []struct {
		x    api.Tree
		key  string
		want string
		up   [][]int
	}{
		{api.Tree{}, "", "", nil}, {api.Tree{}, "a", "a", nil}, {api.Tree{Leaves: leaves("b")}, "a", "a b", nil}, {api.Tree{Leaves: leaves("b")}, "c", "b c", nil}, {api.Tree{Leaves: leaves("b c e")}, "d", "b c d e", nil},
		{api.Tree{Leaves: leaves("b c d e")}, "a", "a b/c d e", up([]int{2})}, {api.Tree{Leaves: leaves("a b c d")}, "e", "a b/c d e", up([]int{2})}, {api.Tree{Leaves: leaves("a b d e")}, "c", "a b/c d e", up([]int{2})},
		{api.Tree{Leaves: leaves("b c/e f"), Up: up([]int{2})}, "a", "a b c/e f", up([]int{2})}, {api.Tree{Leaves: leaves("b c/e f"), Up: up([]int{2})}, "d", "b c d/e f", up([]int{2})}, {api.Tree{Leaves: leaves("b c/e f"), Up: up([]int{2})}, "g", "b c/e f g", up([]int{2})}, {api.Tree{Leaves: leaves("a b c d/e f"), Up: up([]int{2})}, "dd", "a b/c d dd/e f", up([]int{3})}, {api.Tree{Leaves: leaves("b c/e f g h"), Up: up([]int{2})}, "d", "b c d/e f g h", up([]int{2})},
		{api.Tree{Leaves: leaves("a b c d/e f/g h/i j"), Up: up([]int{4})}, "k", "a b c d/e f/g h/i j k", up([]int{4})}, {api.Tree{Leaves: leaves("a b c d/e f/g h/i j"), Up: up([]int{4})}, "aa", "a aa/b c d/e f/g h/i j", up([]int{2, 3}, []int{2})}, {api.Tree{Leaves: leaves("a b/c d/e f/g h i j"), Up: up([]int{4})}, "k", "a b/c d/e f/g h/i j k", up([]int{2, 3}, []int{2})}, {api.Tree{Leaves: leaves("a b/c d/e f/g h i j"), Up: up([]int{2, 2}, []int{2})}, "k", "a b/c d/e f/g h/i j k", up([]int{2, 3}, []int{2})},
	} {
		y, err := holdInsert(t, c.x, c.key, 7)
		if words(y) != c.want || !slices.EqualFunc(y.Up, c.up, sameInts) || err != api.OK {
			t.Errorf("Insert(%v, %q) = %v, %d; want %q, %v", c.x, c.key, y, err, c.want, c.up)
		}
		if id, found, _ := Find(y, c.key); id != 7 || !found {
			t.Errorf("%q is not in %v", c.key, y)
		}
	}
}

// N3: errors in their order, of a tree with room and of a full one.
func TestInsertErrors(t *testing.T) {
	some := api.Tree{Leaves: [][]api.Pair{{{Key: "a"}, {Key: long(40)}}}}
	full := even(32)
	wrong := api.Tree{Leaves: leaves("b a")}
	for i, c := range []struct {
		x    api.Tree
		key  string
		want api.Errno
	}{
		{some, "b", 0}, {some, "a", api.ErrTwice}, {some, long(40), api.ErrTwice}, {some, long(41), api.ErrMany}, {some, long(39), 0}, {some, "", 0}, {api.Tree{}, long(41), api.ErrMany}, {api.Tree{}, long(40), 0},
		{full, "\x00\x00", api.ErrTwice}, {full, "\x06\x03", api.ErrTwice}, {full, "a", api.ErrMany}, {full, "", api.ErrMany}, {full, long(41), api.ErrMany},
		{wrong, "a", api.ErrState}, {wrong, "c", api.ErrState}, {wrong, long(41), api.ErrState},
	} {
		if _, err := holdInsert(t, c.x, c.key, -1); err != c.want {
			t.Errorf("%d: %d; want %d", i, err, c.want)
		}
	}
	d := draw(8)
	for range 50 {
		last := drawnTree(&d, 63)
		y, err := holdInsert(t, last, key(d.below(63))+"a", 5)
		if err != api.OK {
			t.Errorf("%d", err)
		}
		if _, err := holdInsert(t, y, "z", 5); err != api.ErrMany {
			t.Errorf("%d", err)
		}
		if _, err := holdInsert(t, y, key(d.below(63)), 5); err != api.ErrTwice {
			t.Errorf("%d", err)
		}
	}
}

// N4: what becomes of a tree, written out.
func TestDelete(t *testing.T) {
	for _, c := range []struct {
		x    api.Tree
		key  string
		want string
		up   [][]int
	}{
		{api.Tree{Leaves: leaves("a b c")}, "b", "a c", nil}, {api.Tree{Leaves: leaves("a b")}, "a", "b", nil}, {api.Tree{Leaves: leaves("a b")}, "b", "a", nil},
		{api.Tree{Leaves: leaves("a b c/d e"), Up: up([]int{2})}, "a", "b c/d e", up([]int{2})},
		{api.Tree{Leaves: leaves("a b/c d e"), Up: up([]int{2})}, "a", "b c/d e", up([]int{2})}, {api.Tree{Leaves: leaves("a b/c d e f"), Up: up([]int{2})}, "b", "a c/d e f", up([]int{2})}, {api.Tree{Leaves: leaves("a b c/d e"), Up: up([]int{2})}, "d", "a b/c e", up([]int{2})}, {api.Tree{Leaves: leaves("a b c d/e f"), Up: up([]int{2})}, "f", "a b c/d e", up([]int{2})},
		{api.Tree{Leaves: leaves("a b/c d"), Up: up([]int{2})}, "a", "b c d", nil}, {api.Tree{Leaves: leaves("a b/c d"), Up: up([]int{2})}, "d", "a b c", nil},
		{api.Tree{Leaves: leaves("a b c d/e f/g h"), Up: up([]int{3})}, "e", "a b c d/f g h", up([]int{2})}, {api.Tree{Leaves: leaves("a b c d/e f/g h i"), Up: up([]int{3})}, "e", "a b c d/f g/h i", up([]int{3})}, {api.Tree{Leaves: leaves("a b/c d/e f"), Up: up([]int{3})}, "f", "a b/c d e", up([]int{2})},
		{api.Tree{Leaves: leaves("a b/c d/e f g/h i"), Up: up([]int{2, 2}, []int{2})}, "c", "a b d/e f g/h i", up([]int{3})}, {api.Tree{Leaves: leaves("a b/c d/e f/g h/i j"), Up: up([]int{2, 3}, []int{2})}, "a", "b c d/e f/g h/i j", up([]int{2, 2}, []int{2})}, {api.Tree{Leaves: leaves("a b/c d/e f/g h/i j"), Up: up([]int{3, 2}, []int{2})}, "j", "a b/c d/e f/g h i", up([]int{2, 2}, []int{2})}, {api.Tree{Leaves: leaves("a b/c d/e f/g h/i j"), Up: up([]int{3, 2}, []int{2})}, "a", "b c d/e f/g h/i j", up([]int{2, 2}, []int{2})},
		{api.Tree{Leaves: leaves("a b/c d/e f/g h/i j/k l/m n"), Up: up([]int{3, 2, 2}, []int{3})}, "g", "a b/c d/e f/h i j/k l/m n", up([]int{3, 3}, []int{2})}, {api.Tree{Leaves: leaves("a b/c d/e f/g h/i j/k l/m n"), Up: up([]int{2, 2, 3}, []int{3})}, "g", "a b/c d/e f h/i j/k l/m n", up([]int{2, 2, 2}, []int{3})}, {api.Tree{Leaves: leaves("a b/c d/e f/g h/i j/k l/m n/o p"), Up: up([]int{2, 2, 2, 2}, []int{2, 2}, []int{2})}, "h", "a b/c d/e f g/i j/k l/m n/o p", up([]int{3, 2, 2}, []int{3})},
	} {
		y, err := holdDelete(t, c.x, c.key)
		if words(y) != c.want || !slices.EqualFunc(y.Up, c.up, sameInts) || err != api.OK {
			t.Errorf("Delete(%v, %q) = %v, %d; want %q, %v", c.x, c.key, y, err, c.want, c.up)
		}
	}
	if y, err := holdDelete(t, api.Tree{Leaves: leaves("a")}, "a"); len(y.Leaves) != 0 || len(y.Up) != 0 || err != api.OK {
		t.Errorf("%v, %d", y, err)
	}
	for i, c := range []struct {
		x    api.Tree
		key  string
		want api.Errno
	}{
		{api.Tree{}, "", api.ErrNone}, {api.Tree{}, "a", api.ErrNone}, {api.Tree{Leaves: leaves("b")}, "a", api.ErrNone}, {api.Tree{Leaves: leaves("b")}, "c", api.ErrNone}, {api.Tree{Leaves: leaves("b")}, long(41), api.ErrNone}, {even(32), "a", api.ErrNone}, {even(32), "\x00\x00", 0}, {api.Tree{Leaves: leaves("b a")}, "a", api.ErrState}, {api.Tree{Leaves: leaves("b a")}, "c", api.ErrState},
	} {
		if _, err := holdDelete(t, c.x, c.key); err != c.want {
			t.Errorf("%d: %d; want %d", i, err, c.want)
		}
	}
}

// N3 to N5: of all right trees of up to 20 pairs, each pair goes, and one comes at each place.
func TestChangeAll(t *testing.T) {
	levels := map[int]int{}
	for n := range 21 {
		for _, x := range allTrees(n) {
			levels[len(x.Up)]++
			kept := copyOf(x)
			for i := range n {
				holdDelete(t, x, key(i))
				holdInsert(t, x, key(i)+"a", -5)
			}
			holdInsert(t, x, "", -5)
			if !same(x, kept) {
				t.Fatalf("%v has become %v", kept, x)
			}
		}
	}
	if len(levels) != 4 || levels[3] < 10 {
		t.Errorf("trees by levels: %v", levels)
	}
}

// N1 to N5: greater right trees, of any form, of one to five levels above the leaves.
func TestChangeDrawn(t *testing.T) {
	d := draw(2)
	levels := map[int]int{}
	for i := range 3000 {
		n := i % 65
		x := drawnTree(&d, n)
		levels[len(x.Up)]++
		if err := holdRead(t, x, key(d.below(70)), key(d.below(70))); err != api.OK {
			t.Fatalf("%v: %d", x, err)
		}
		for range 4 {
			k := key(d.below(n + 1))
			holdDelete(t, x, k)
			holdInsert(t, x, k, 5)
			holdInsert(t, x, k+"a", 5)
		}
	}
	for range 20 {
		x := even(32)
		k := x.Leaves[d.below(32)][d.below(2)].Key
		levels[len(x.Up)]++
		y, _ := holdDelete(t, x, k)
		holdInsert(t, y, k, 5)
	}
	for n := range 6 {
		if levels[n] < 20 {
			t.Errorf("trees by levels: %v", levels)
		}
	}
}

// N3 to N5: pairs come and go, in rising, falling and drawn order, until a tree is full, and until it is empty.
func TestComeAndGo(t *testing.T) {
	d := draw(6)
	var order [64]int
	for i := range order {
		order[i] = i
	}
	for round := range 60 {
		x := api.Tree{}
		switch round {
		case 0:
		case 1:
			slices.Reverse(order[:])
		default:
			for i := range order {
				k := d.below(i + 1)
				order[i], order[k] = order[k], order[i]
			}
		}
		for _, n := range order {
			x, _ = holdInsert(t, x, key(n), int64(n))
		}
		if l, err := List(x); len(l) != 64 || err != api.OK || !slices.IsSortedFunc(l, func(a, b api.Pair) int { return int(a.Id - b.Id) }) {
			t.Fatalf("%v, %d", l, err)
		}
		if round%3 == 2 {
			slices.Reverse(order[:])
		}
		for _, n := range order {
			x, _ = holdDelete(t, x, key(n))
			holdRead(t, x, key(n), key(n+5))
		}
		if len(x.Leaves) != 0 || len(x.Up) != 0 {
			t.Fatalf("%v", x)
		}
	}
}

// N1, P1: trees with something wrong, mostly: each call tells what Check tells.
func TestDrawnWrong(t *testing.T) {
	d := draw(4)
	counts := map[api.Errno]int{}
	for range 40000 {
		x := spoil(&d, drawnTree(&d, d.below(65)))
		if d.below(3) == 0 {
			x = spoil(&d, x)
		}
		k := key(d.below(70))
		err := holdRead(t, x, k, key(d.below(70)))
		counts[err]++
		holdInsert(t, x, k, 3)
		holdDelete(t, x, k)
	}
	for _, err := range []api.Errno{api.OK, api.ErrMany, api.ErrForm, api.ErrState} {
		if counts[err] < 500 {
			t.Errorf("drawn too few of a kind: %v", counts)
		}
	}
}

// roomyLists answers lists with spare room behind them, filled.
func roomyLists[T any](lists [][]T, room T) [][]T {
	out := make([][]T, 0, len(lists)+2)
	for _, l := range lists {
		out = append(out, append(slices.Clone(l), room, room)[:len(l)])
	}
	return append(out, []T{room}, []T{room})[:len(lists)]
}

func roomy(x api.Tree) api.Tree {
	return api.Tree{Leaves: roomyLists(x.Leaves, api.Pair{Key: "room", Id: 7}), Up: roomyLists(x.Up, 77)}
}

// entire tells all that a tree has, its spare room too.
func entire(x api.Tree) api.Tree {
	var out api.Tree
	for _, l := range x.Leaves[:cap(x.Leaves)] {
		out.Leaves = append(out.Leaves, slices.Clone(l[:cap(l)]))
	}
	for _, l := range x.Up[:cap(x.Up)] {
		out.Up = append(out.Up, slices.Clone(l[:cap(l)]))
	}
	return out
}

// ownLists writes all over lists, and tells whether no two of them share memory.
func ownLists[T comparable](lists [][]T, sign func(n int) T) bool {
	for i, l := range lists {
		for k := range l[:cap(l)] {
			l[:cap(l)][k] = sign(i)
		}
	}
	for i, l := range lists {
		for _, v := range l[:cap(l)] {
			if v != sign(i) {
				return false
			}
		}
	}
	for i := range lists[:cap(lists)] {
		lists[:cap(lists)][i] = nil
	}
	return true
}

func own(x api.Tree) bool {
	return ownLists(x.Leaves, func(n int) api.Pair { return api.Pair{Key: "own", Id: int64(n)} }) && ownLists(x.Up, func(n int) int { return 1000 + n })
}

// P2: what is handed in is only read, the room behind it too, and what is answered is the caller's.
func TestOnlyRead(t *testing.T) {
	d := draw(5)
	for i := range 1000 {
		n := i % 65
		x := roomy(drawnTree(&d, n))
		kept := entire(x)
		for range 2 {
			y, _ := Insert(x, key(d.below(n+1))+"a", 5)
			z, _ := Delete(x, key(d.below(n+1)))
			l, _ := List(x)
			r, _ := Range(x, key(d.below(n+1)), "z")
			if !own(y) || !own(z) || !ownLists([][]api.Pair{l, r}, func(n int) api.Pair { return api.Pair{Id: int64(n)} }) {
				t.Fatalf("%v: lists share memory", x)
			}
			holdRead(t, x, key(d.below(n+1)), "z")
			if !same(entire(x), kept) {
				t.Fatalf("%v has become %v", kept, entire(x))
			}
		}
	}
	x := treeOf([]int{2, 2}, up([]int{2}))
	y, _ := Insert(x, "01a", 5)
	z, _ := Delete(treeOf([]int{2, 3}, up([]int{2})), "04")
	l, _ := List(x)
	keptY, keptL := copyOf(y), slices.Clone(l)
	own(x)
	if !same(y, keptY) || !slices.Equal(l, keptL) || !same(z, treeOf([]int{2, 2}, up([]int{2}))) {
		t.Errorf("a change is seen in what was answered: %v, %v, %v", y, z, l)
	}
}

// P3: whatever was asked ahead of it, and whoever asks at the same time.
func TestNothingIsKept(t *testing.T) {
	shared := drawnTree(new(draw), 40)
	var hands sync.WaitGroup
	for seed := range 4 {
		hands.Go(func() {
			d := draw(60 + seed)
			for range 500 {
				x := drawnTree(&d, d.below(65))
				if d.below(2) == 0 {
					x = shared
				}
				k := key(d.below(64))
				for range 2 {
					holdRead(t, x, k, "z")
					holdInsert(t, x, k, 5)
					holdDelete(t, x, k)
				}
			}
		})
	}
	hands.Wait()
}

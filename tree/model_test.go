package tree

import (
	"math/bits"
	"slices"
	"strconv"
	"strings"
	"testing"

	"starling/api"
)

// draw: numbers that are the same each time.
type draw uint64

func (d *draw) next() uint64 {
	*d = *d*6364136223846793005 + 1442695040888963407
	x := uint64(*d)
	return bits.RotateLeft64(x^x>>29, 23) * 0x9E3779B97F4A7C15
}

func (d *draw) below(n int) int { return int(d.next() >> 11 % uint64(n)) }

func samePairs(a, b []api.Pair) bool { return slices.Equal(a, b) }
func sameInts(a, b []int) bool       { return slices.Equal(a, b) }

func same(a, b api.Tree) bool {
	return slices.EqualFunc(a.Leaves, b.Leaves, samePairs) && slices.EqualFunc(a.Up, b.Up, sameInts)
}

func copyOf(t api.Tree) api.Tree {
	var c api.Tree
	for _, l := range t.Leaves {
		c.Leaves = append(c.Leaves, slices.Clone(l))
	}
	for _, l := range t.Up {
		c.Up = append(c.Up, slices.Clone(l))
	}
	return c
}

// list has all pairs of whatever tree.
func list(t api.Tree) []api.Pair { return slices.Concat(t.Leaves...) }

// modelCheck tells what is wrong, with keys in one list and each level held against the one below it.
func modelCheck(t api.Tree) api.Errno {
	if len(t.Leaves) > 64 || len(t.Up) > 8 {
		return api.ErrMany
	}
	var keys []string
	for _, leaf := range t.Leaves {
		least := 2
		if len(t.Leaves) == 1 {
			least = 1
		}
		if len(leaf) < least || len(leaf) > 4 {
			return api.ErrForm
		}
		for _, p := range leaf {
			if len(p.Key) > 40 {
				return api.ErrMany
			}
			if n := len(keys); n > 0 && strings.Compare(p.Key, keys[n-1]) <= 0 {
				return api.ErrState
			}
			keys = append(keys, p.Key)
		}
	}
	nodes := len(t.Leaves)
	for i := range t.Up {
		wrong := slices.ContainsFunc(t.Up[i], func(n int) bool { return n != 2 && n != 3 && n != 4 })
		if nodes < 2 || wrong {
			return api.ErrForm
		}
		for _, n := range t.Up[i] {
			nodes -= n
		}
		if nodes != 0 {
			return api.ErrForm
		}
		nodes = len(t.Up[i])
	}
	if nodes > 1 {
		return api.ErrForm
	}
	if len(keys) > 64 {
		return api.ErrMany
	}
	return api.OK
}

// node of a model's tree: pairs, if it is a leaf, else kids.
type node struct {
	pairs []api.Pair
	kids  []*node
}

// nested answers the node on top of a right tree, nil if there is none.
func nested(t api.Tree) *node {
	var level []*node
	for _, leaf := range t.Leaves {
		level = append(level, &node{pairs: slices.Clone(leaf)})
	}
	for _, counts := range t.Up {
		var above []*node
		for _, n := range counts {
			above = append(above, &node{kids: slices.Clone(level[:n])})
			level = level[n:]
		}
		level = above
	}
	if len(level) == 0 {
		return nil
	}
	return level[0]
}

// plain goes back from what nested tells.
func plain(top *node) api.Tree {
	var t api.Tree
	if top == nil {
		return t
	}
	level := []*node{top}
	for level[0].kids != nil {
		var counts []int
		var below []*node
		for _, n := range level {
			counts = append(counts, len(n.kids))
			below = append(below, n.kids...)
		}
		t.Up = append([][]int{counts}, t.Up...)
		level = below
	}
	for _, leaf := range level {
		t.Leaves = append(t.Leaves, leaf.pairs)
	}
	return t
}

func (n *node) least() string {
	for n.kids != nil {
		n = n.kids[0]
	}
	return n.pairs[0].Key
}

// way tells the kid to which a key belongs.
func (n *node) way(key string) int {
	for i := len(n.kids) - 1; i > 0; i-- {
		if n.kids[i].least() <= key {
			return i
		}
	}
	return 0
}

// insert answers what becomes of a node: one or two.
func (n *node) insert(p api.Pair) []*node {
	if n.kids == nil {
		n.pairs = append(n.pairs, p)
		slices.SortFunc(n.pairs, func(a, b api.Pair) int { return strings.Compare(a.Key, b.Key) })
		if len(n.pairs) <= 4 {
			return []*node{n}
		}
		return []*node{{pairs: slices.Clone(n.pairs[:2])}, {pairs: slices.Clone(n.pairs[2:])}}
	}
	i := n.way(p.Key)
	became := n.kids[i].insert(p)
	n.kids = slices.Concat(n.kids[:i], became, n.kids[i+1:])
	if len(n.kids) <= 4 {
		return []*node{n}
	}
	return []*node{{kids: slices.Clone(n.kids[:2])}, {kids: slices.Clone(n.kids[2:])}}
}

func modelInsert(t api.Tree, key string, id int64) (api.Tree, api.Errno) {
	if err := modelCheck(t); err != api.OK {
		return api.Tree{}, err
	}
	if len(key) > 40 {
		return api.Tree{}, api.ErrMany
	}
	if slices.ContainsFunc(list(t), func(p api.Pair) bool { return p.Key == key }) {
		return api.Tree{}, api.ErrTwice
	}
	if len(list(t)) == 64 {
		return api.Tree{}, api.ErrMany
	}
	p := api.Pair{Key: key, Id: id}
	top := nested(t)
	if top == nil {
		return api.Tree{Leaves: [][]api.Pair{{p}}}, api.OK
	}
	became := top.insert(p)
	if len(became) == 1 {
		return plain(became[0]), api.OK
	}
	return plain(&node{kids: became}), api.OK
}

func (n *node) tooFew() bool { return len(n.pairs)+len(n.kids) < 2 }

// remove takes a key out of a node, and mends that one of its kids that has too few then.
func (n *node) remove(key string) {
	if n.kids == nil {
		n.pairs = slices.DeleteFunc(n.pairs, func(p api.Pair) bool { return p.Key == key })
		return
	}
	i := n.way(key)
	n.kids[i].remove(key)
	if !n.kids[i].tooFew() {
		return
	}
	if i < len(n.kids)-1 {
		n.fromNext(i)
	} else {
		n.fromBefore(i)
	}
}

// fromNext: kid i turns to the next one.
func (n *node) fromNext(i int) {
	a, b := n.kids[i], n.kids[i+1]
	switch {
	case len(b.pairs) > 2:
		a.pairs, b.pairs = append(a.pairs, b.pairs[0]), b.pairs[1:]
	case len(b.kids) > 2:
		a.kids, b.kids = append(a.kids, b.kids[0]), b.kids[1:]
	default:
		a.pairs, a.kids = append(a.pairs, b.pairs...), append(a.kids, b.kids...)
		n.kids = slices.Delete(n.kids, i+1, i+2)
	}
}

// fromBefore: kid i turns to the one before.
func (n *node) fromBefore(i int) {
	a, b := n.kids[i-1], n.kids[i]
	pair, kid := len(a.pairs)-1, len(a.kids)-1
	switch {
	case len(a.pairs) > 2:
		a.pairs, b.pairs = a.pairs[:pair], append([]api.Pair{a.pairs[pair]}, b.pairs...)
	case len(a.kids) > 2:
		a.kids, b.kids = a.kids[:kid], append([]*node{a.kids[kid]}, b.kids...)
	default:
		a.pairs, a.kids = append(a.pairs, b.pairs...), append(a.kids, b.kids...)
		n.kids = slices.Delete(n.kids, i, i+1)
	}
}

func modelDelete(t api.Tree, key string) (api.Tree, api.Errno) {
	if err := modelCheck(t); err != api.OK {
		return api.Tree{}, err
	}
	if !slices.ContainsFunc(list(t), func(p api.Pair) bool { return p.Key == key }) {
		return api.Tree{}, api.ErrNone
	}
	top := nested(t)
	top.remove(key)
	if top.kids == nil && len(top.pairs) == 0 {
		return api.Tree{}, api.OK
	}
	if len(top.kids) == 1 {
		top = top.kids[0]
	}
	return plain(top), api.OK
}

func modelFind(t api.Tree, key string) (int64, bool, api.Errno) {
	if err := modelCheck(t); err != api.OK {
		return 0, false, err
	}
	if len(key) > 40 {
		return 0, false, api.ErrMany
	}
	for _, p := range list(t) {
		if p.Key == key {
			return p.Id, true, api.OK
		}
	}
	return 0, false, api.OK
}

func modelRange(t api.Tree, low, high string) ([]api.Pair, api.Errno) {
	if err := modelCheck(t); err != api.OK {
		return nil, err
	}
	return slices.DeleteFunc(list(t), func(p api.Pair) bool {
		return strings.Compare(p.Key, low) < 0 || strings.Compare(p.Key, high) > 0
	}), api.OK
}

// holdRead holds the calls that change nothing against the model, and tells Check's error.
func holdRead(t *testing.T, x api.Tree, key, high string) api.Errno {
	t.Helper()
	checked := Check(x)
	if want := modelCheck(x); checked != want {
		t.Errorf("Check(%v) = %d; want %d", x, checked, want)
	}
	l, err := List(x)
	if err != checked || err == api.OK && !slices.Equal(l, list(x)) || err != api.OK && l != nil {
		t.Errorf("List(%v) = %v, %d; want %d", x, l, err, checked)
	}
	id, found, err := Find(x, key)
	if wantId, want, wantErr := modelFind(x, key); id != wantId || found != want || err != wantErr {
		t.Errorf("Find(%v, %q) = %d, %v, %d; want %d, %v, %d", x, key, id, found, err, wantId, want, wantErr)
	}
	l, err = Range(x, key, high)
	if want, wantErr := modelRange(x, key, high); !slices.Equal(l, want) || err != wantErr || err != api.OK && l != nil {
		t.Errorf("Range(%v, %q, %q) = %v, %d; want %v, %d", x, key, high, l, err, want, wantErr)
	}
	return checked
}

// holdInsert holds Insert against the model; what it answers is right and as high as it may be.
func holdInsert(t *testing.T, x api.Tree, key string, id int64) (api.Tree, api.Errno) {
	t.Helper()
	y, err := Insert(x, key, id)
	if want, wantErr := modelInsert(x, key, id); !same(y, want) || err != wantErr {
		t.Errorf("Insert(%v, %q, %d) = %v, %d; want %v, %d", x, key, id, y, err, want, wantErr)
	}
	if err == api.OK && len(list(y)) != len(list(x))+1 {
		t.Errorf("Insert(%v, %q, %d) = %v: not one more", x, key, id, y)
	}
	holdHeight(t, y)
	return y, err
}

// holdDelete holds Delete against the model; what it answers is right and as high as it may be.
func holdDelete(t *testing.T, x api.Tree, key string) (api.Tree, api.Errno) {
	t.Helper()
	y, err := Delete(x, key)
	if want, wantErr := modelDelete(x, key); !same(y, want) || err != wantErr {
		t.Errorf("Delete(%v, %q) = %v, %d; want %v, %d", x, key, y, err, want, wantErr)
	}
	if err == api.OK && len(list(y)) != len(list(x))-1 {
		t.Errorf("Delete(%v, %q) = %v: not one less", x, key, y)
	}
	holdHeight(t, y)
	return y, err
}

// holdHeight: of h levels at least 2 to the h pairs, and at most 4 to the h; only a leaf that is alone may have one pair.
func holdHeight(t *testing.T, x api.Tree) {
	t.Helper()
	n, levels := len(list(x)), len(x.Up)+1
	if err := modelCheck(x); err != api.OK {
		t.Errorf("%v is not right: %d", x, err)
	}
	if n > 1 && n < 1<<levels || n > 1<<(2*levels) {
		t.Errorf("%v has %d levels of %d pairs", x, levels, n)
	}
}

// shapes answers all ways to part n into parts of 2 to 4.
func shapes(n int) [][]int {
	if n == 0 {
		return [][]int{nil}
	}
	var out [][]int
	for part := 2; part <= min(n, 4); part++ {
		for _, rest := range shapes(n - part) {
			out = append(out, append([]int{part}, rest...))
		}
	}
	return out
}

// ups answers all right levels above so many leaves.
func ups(leaves int) [][][]int {
	if leaves == 1 {
		return [][][]int{nil}
	}
	var out [][][]int
	for _, level := range shapes(leaves) {
		for _, above := range ups(len(level)) {
			out = append(out, append([][]int{level}, above...))
		}
	}
	return out
}

// key tells a key so that there is room for others ahead of it and behind it.
func key(n int) string { return string([]byte{byte('0' + n/10), byte('0' + n%10)}) }

// treeOf has pairs of keys 0 on, in leaves of such sizes.
func treeOf(sizes []int, up [][]int) api.Tree {
	t := api.Tree{Up: up}
	n := 0
	for _, size := range sizes {
		var leaf []api.Pair
		for range size {
			leaf = append(leaf, api.Pair{Key: key(n), Id: int64(100 + n)})
			n++
		}
		t.Leaves = append(t.Leaves, leaf)
	}
	return t
}

// allTrees answers all right trees of so many pairs.
func allTrees(n int) []api.Tree {
	if n < 2 {
		return []api.Tree{treeOf([]int{n}[:n], nil)}
	}
	var out []api.Tree
	for _, sizes := range shapes(n) {
		for _, up := range ups(len(sizes)) {
			out = append(out, treeOf(sizes, up))
		}
	}
	return out
}

// drawnSizes parts n, of at least 2, into parts of 2 to most, and of 3 where a 1 would be left.
func drawnSizes(d *draw, n, most int) []int {
	var sizes []int
	for n > 0 {
		part := min(2+d.below(most-1), n)
		switch {
		case n-part == 1 && part == 2:
			part = 3
		case n-part == 1:
			part--
		}
		sizes = append(sizes, part)
		n -= part
	}
	return sizes
}

// drawnTree answers a right tree of n pairs, of any form.
func drawnTree(d *draw, n int) api.Tree {
	if n < 2 {
		return allTrees(n)[0]
	}
	most := 2 + d.below(3)
	sizes := drawnSizes(d, n, most)
	var up [][]int
	for below := len(sizes); below > 1; below = len(up[len(up)-1]) {
		up = append(up, drawnSizes(d, below, most))
	}
	return treeOf(sizes, up)
}

// spoil makes something of a tree wrong, mostly.
func spoil(d *draw, t api.Tree) api.Tree {
	switch d.below(10) {
	case 0:
		t.Up = append(t.Up, slices.Repeat([]int{2}, d.below(3)))
	case 1:
		t.Up = t.Up[:max(0, len(t.Up)-1)]
	case 2:
		t.Leaves = slices.Insert(t.Leaves, d.below(len(t.Leaves)+1), slices.Repeat([]api.Pair{{Key: key(d.below(90))}}, d.below(3)))
	case 3:
		if at := d.below(len(t.Up) + 1); at < len(t.Up) && len(t.Up[at]) > 0 {
			t.Up[at][d.below(len(t.Up[at]))] += d.below(5) - 2
		}
	case 4:
		t.Up = slices.Insert(t.Up, d.below(len(t.Up)+1), slices.Repeat([]int{1}, d.below(3)))
	case 5:
		for range 9 {
			t.Up = append(t.Up, []int{2}[:d.below(2)])
		}
	default:
		spoilLeaf(d, t)
	}
	return t
}

func spoilLeaf(d *draw, t api.Tree) {
	at := d.below(len(t.Leaves) + 1)
	if at == len(t.Leaves) || len(t.Leaves[at]) == 0 {
		return
	}
	leaf := t.Leaves[at]
	switch d.below(5) {
	case 0:
		t.Leaves[at] = leaf[:d.below(len(leaf))]
	case 1:
		t.Leaves[at] = append(leaf, api.Pair{Key: leaf[len(leaf)-1].Key + strconv.Itoa(d.below(2))})
	case 2:
		leaf[d.below(len(leaf))].Key = key(d.below(70))
	case 3:
		leaf[d.below(len(leaf))].Key += strings.Repeat("k", 37+d.below(4))
	case 4:
		leaf[0] = leaf[len(leaf)-1]
	}
}

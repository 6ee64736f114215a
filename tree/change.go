package tree

import (
	"slices"

	"starling/api"
)

// stay: how many pairs or kids stay in the first one, where one becomes two.
const stay = 2

// Insert answers a tree that has a pair more.
func Insert(t api.Tree, key string, id int64) (api.Tree, api.Errno) {
	if err := Check(t); err != api.OK {
		return api.Tree{}, err
	}
	if len(key) > api.MaxKey {
		return api.Tree{}, api.ErrMany
	}
	leaf, at, found := place(t, key)
	if found {
		return api.Tree{}, api.ErrTwice
	}
	if count(t) == api.MaxPairs {
		return api.Tree{}, api.ErrMany
	}
	c := changedOf(t)
	if len(c.Leaves) == 0 {
		c.Leaves = make([][]api.Pair, 1)
	}
	c.Leaves[leaf] = slices.Insert(c.Leaves[leaf], at, api.Pair{Key: key, Id: id})
	c.grown(leaf)
	return c.Tree, api.OK
}

// Delete answers a tree that has a pair less.
func Delete(t api.Tree, key string) (api.Tree, api.Errno) {
	if err := Check(t); err != api.OK {
		return api.Tree{}, err
	}
	leaf, at, found := place(t, key)
	if !found {
		return api.Tree{}, api.ErrNone
	}
	c := changedOf(t)
	c.Leaves[leaf] = slices.Delete(c.Leaves[leaf], at, at+1)
	c.shrunk(leaf)
	return c.Tree, api.OK
}

// changed: a tree in the midst of a change. Level 0 of it are the leaves, level 1 the nodes of Up[0], and so on.
type changed struct{ api.Tree }

// changedOf answers a tree that shares no memory with the plain one.
func changedOf(t api.Tree) *changed {
	return &changed{api.Tree{Leaves: copied(t.Leaves), Up: copied(t.Up)}}
}

func copied[T any](lists [][]T) [][]T {
	var own [][]T
	for _, l := range lists {
		own = append(own, slices.Clone(l))
	}
	return own
}

// size tells how many pairs or kids one has.
func (c *changed) size(level, at int) int {
	if level == 0 {
		return len(c.Leaves[at])
	}
	return c.Up[level-1][at]
}

// above tells the place of the node above one that is not on top, and the place of that node's last kid.
func (c *changed) above(level, at int) (node, lastKid int) {
	lastKid = c.Up[level][0] - 1
	for lastKid < at {
		node++
		lastKid += c.Up[level][node]
	}
	return node, lastKid
}

// cut makes two of one, its first ones and the others.
func (c *changed) cut(level, at, first int) {
	if level == 0 {
		leaf := c.Leaves[at]
		c.Leaves = slices.Replace(c.Leaves, at, at+1, slices.Clone(leaf[:first]), slices.Clone(leaf[first:]))
		return
	}
	nodes := c.Up[level-1]
	c.Up[level-1] = slices.Replace(nodes, at, at+1, first, nodes[at]-first)
}

// join makes one of two, the one at a place and the next one.
func (c *changed) join(level, at int) {
	if level == 0 {
		c.Leaves = slices.Replace(c.Leaves, at, at+2, slices.Concat(c.Leaves[at], c.Leaves[at+1]))
		return
	}
	nodes := c.Up[level-1]
	c.Up[level-1] = slices.Replace(nodes, at, at+2, nodes[at]+nodes[at+1])
}

// grown makes two of a leaf that has one too many, and of each node above it that has one too many then.
func (c *changed) grown(at int) {
	for level := 0; c.size(level, at) > api.MaxFan; level++ {
		c.cut(level, at, stay)
		if level == len(c.Up) {
			c.Up = append(c.Up, []int{2})
			return
		}
		at, _ = c.above(level, at)
		c.Up[level][at]++
	}
}

// shrunk mends a leaf that has too few, and each node above it that has too few then.
func (c *changed) shrunk(at int) {
	for level := range c.Up {
		if c.size(level, at) >= api.MinFan {
			return
		}
		node, lastKid := c.above(level, at)
		if c.handed(level, at, at == lastKid) {
			return
		}
		c.Up[level][node]--
		at = node
	}
	c.shrunkTop()
}

// handed brings one that has too few together with the next one, or with the one before, if it is its node's last one. It tells whether that one could hand over what stands nearest; if not, both have become one.
func (c *changed) handed(level, at int, isLast bool) bool {
	left, other, first := at, at+1, c.size(level, at)+1
	if isLast {
		left, other, first = at-1, at-1, c.size(level, at-1)-1
	}
	canSpare := c.size(level, other) > api.MinFan
	// All stand in order already: one is handed over where both are cut at another place.
	c.join(level, left)
	if canSpare {
		c.cut(level, left, first)
	}
	return canSpare
}

// shrunkTop takes away what stands on top, if it is a node with only one kid, or a leaf without pairs.
func (c *changed) shrunkTop() {
	top := len(c.Up)
	switch {
	case top > 0 && c.size(top, 0) == 1:
		c.Up = c.Up[:top-1]
	case top == 0 && c.size(top, 0) == 0:
		c.Leaves = nil
	}
}

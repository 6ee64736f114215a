package eval

import (
	"slices"

	"starling/api"
	"starling/expr"
	"starling/walk"
)

// Fold turns into a literal what is worth the same whatever columns have.
func Fold(e []api.Node) ([]api.Node, api.Errno) {
	if err := expr.Check(e); err != api.OK {
		return nil, err
	}
	// No error is left, and one expression: that of the root.
	folded, _ := walk.Up(e, foldedNode)
	return folded[0], api.OK
}

// foldedNode tells what a node becomes by what its kids became.
func foldedNode(n api.Node, kids [][]api.Node) ([]api.Node, api.Errno) {
	e := append(slices.Concat(kids...), n)
	// Without columns what has one below it is worth nothing.
	v, err := Eval(e, nil, nil)
	if err != api.OK || v.N < 0 {
		return e, api.OK
	}
	return []api.Node{{Op: api.OpLit, V: v}}, api.OK
}

// Push takes each Not as far down as it goes.
func Push(e []api.Node) ([]api.Node, api.Errno) {
	if err := expr.Check(e); err != api.OK {
		return nil, err
	}
	pushed := pushedNode(e, false)
	if err := expr.Check(pushed); err != api.OK {
		return nil, err
	}
	return pushed, api.OK
}

// pushedNode tells what a right expression becomes, or what becomes of Not of it.
func pushedNode(e []api.Node, not bool) []api.Node {
	root := e[len(e)-1]
	switch root.Op {
	case api.OpNot:
		return pushedNode(e[:len(e)-1], !not)
	case api.OpAnd, api.OpOr:
		return pushedPair(e, not)
	}
	pushed := slices.Clone(e)
	if !not {
		return pushed
	}
	if op, ok := counterpart(root.Op); ok {
		pushed[len(pushed)-1].Op = op
		return pushed
	}
	return append(pushed, api.Node{Op: api.OpNot, Kids: 1})
}

// pushedPair does so with an And or an Or, which Not turns into each other.
func pushedPair(e []api.Node, not bool) []api.Node {
	root := e[len(e)-1]
	// No error is left: each part of a right expression is a right one.
	kids, _ := expr.Kids(e)
	var pushed []api.Node
	for _, kid := range kids {
		pushed = append(pushed, pushedNode(kid, not)...)
	}
	switch {
	case not && root.Op == api.OpAnd:
		root.Op = api.OpOr
	case not:
		root.Op = api.OpAnd
	}
	return append(pushed, root)
}

package eval

import (
	"cmp"
	"math/big"
	"math/bits"
	"slices"
	"strings"

	"starling/api"
	"starling/expr"
	"starling/like"
	"starling/value"
)

// draw: numbers that are the same each time.
type draw uint64

func (d *draw) next() uint64 {
	*d = *d*6364136223846793005 + 1442695040888963407
	x := uint64(*d)
	return bits.RotateLeft64(x^x>>29, 23) * 0x9E3779B97F4A7C15
}

func (d *draw) below(n int) int { return int(d.next() >> 11 % uint64(n)) }

func num(n int64) api.Value   { return api.Value{Kind: api.Int, N: n} }
func text(s string) api.Value { return api.Value{Kind: api.Text, S: s} }
func blob(s string) api.Value { return api.Value{Kind: api.Blob, S: s} }
func long(n int) string       { return strings.Repeat("w", n) }

var null api.Value

func lit(v api.Value) api.Node      { return api.Node{Op: api.OpLit, V: v} }
func col(name string) api.Node      { return api.Node{Op: api.OpCol, Name: name} }
func op(op, kids int) api.Node      { return api.Node{Op: op, Kids: kids} }
func list(n ...api.Node) []api.Node { return n }

// tree: a node and its kids.
type tree struct {
	node api.Node
	kids []tree
}

func leaf(n api.Node) tree            { return tree{node: n} }
func branch(o int, kids ...tree) tree { return tree{op(o, len(kids)), kids} }
func (t tree) is(ops ...int) bool     { return slices.Contains(ops, t.node.Op) }
func (t tree) with(o int) tree        { return branch(o, t.kids...) }

func (t tree) nodes() []api.Node {
	var e []api.Node
	for _, kid := range t.kids {
		e = append(e, kid.nodes()...)
	}
	return append(e, t.node)
}

// treeOf reads a right expression from its end on.
func treeOf(e []api.Node) tree {
	t, _ := lastTree(e)
	return t
}

func lastTree(e []api.Node) (tree, []api.Node) {
	t := leaf(e[len(e)-1])
	rest := e[:len(e)-1]
	for range t.node.Kids {
		var kid tree
		kid, rest = lastTree(rest)
		t.kids = slices.Insert(t.kids, 0, kid)
	}
	return t, rest
}

// truth: nil is Unknown.
type truth *bool

func is(b bool) truth { return &b }

func not(a truth) truth {
	if a == nil {
		return nil
	}
	return is(!*a)
}

// all is true if all are, false if one is, else nobody knows.
func all(l ...truth) truth {
	out := is(true)
	for _, a := range l {
		if a != nil && !*a {
			return is(false)
		}
		if a == nil {
			out = nil
		}
	}
	return out
}

func some(l ...truth) truth {
	var turned []truth
	for _, a := range l {
		turned = append(turned, not(a))
	}
	return not(all(turned...))
}

func less(a, b api.Value) truth {
	if a.Kind == api.Null || b.Kind == api.Null {
		return nil
	}
	return is(cmp.Or(a.Kind-b.Kind, cmp.Compare(a.N, b.N), strings.Compare(a.S, b.S)) < 0)
}

func same(a, b api.Value) truth {
	if a.Kind == api.Null || b.Kind == api.Null {
		return nil
	}
	return is(a == b)
}

func valueOf(a truth) api.Value {
	switch {
	case a == nil:
		return null
	case *a:
		return num(1)
	}
	return num(0)
}

func isKind(v api.Value, kinds ...int) bool { return slices.Contains(kinds, v.Kind) }

// model of Eval, from the words of J1 and J2.
func worth(t tree, cols []string, row []api.Value) (api.Value, api.Errno) {
	var v []api.Value
	for _, kid := range t.kids {
		w, err := worth(kid, cols, row)
		if err != api.OK {
			return null, err
		}
		v = append(v, w)
	}
	textual := func(w api.Value) bool { return isKind(w, api.Text, api.Blob) }
	switch o := t.node.Op; o {
	case api.OpLit:
		return t.node.V, api.OK
	case api.OpCol:
		for i := range cols {
			if cols[i] == t.node.Name {
				return row[i], api.OK
			}
		}
		return null, api.ErrNone
	case api.OpNeg, api.OpAdd, api.OpSub, api.OpMul, api.OpDiv, api.OpMod:
		if slices.ContainsFunc(v, textual) {
			return null, api.ErrKind
		}
		if slices.Contains(v, null) {
			return null, api.OK
		}
		return reckon(o, v)
	case api.OpAnd, api.OpOr, api.OpNot:
		if slices.ContainsFunc(v, textual) {
			return null, api.ErrKind
		}
		var l []truth
		for _, w := range v {
			if w.Kind == api.Null {
				l = append(l, nil)
			} else {
				l = append(l, is(w.N != 0))
			}
		}
		return valueOf(map[int]func() truth{api.OpAnd: func() truth { return all(l...) }, api.OpOr: func() truth { return some(l...) }, api.OpNot: func() truth { return not(l[0]) }}[o]()), api.OK
	case api.OpLike, api.OpNotLike:
		return alike(o, v)
	default:
		return valueOf(compare(o, v)), api.OK
	}
}

func reckon(o int, v []api.Value) (api.Value, api.Errno) {
	a, b, n := big.NewInt(v[0].N), big.NewInt(v[len(v)-1].N), new(big.Int)
	switch {
	case (o == api.OpDiv || o == api.OpMod) && b.Sign() == 0:
		return null, api.ErrZero
	case o == api.OpNeg:
		n.Neg(a)
	case o == api.OpAdd:
		n.Add(a, b)
	case o == api.OpSub:
		n.Sub(a, b)
	case o == api.OpMul:
		n.Mul(a, b)
	case o == api.OpDiv:
		n.Quo(a, b)
	case o == api.OpMod:
		n.Rem(a, b)
	}
	if !n.IsInt64() {
		return null, api.ErrOver
	}
	return num(n.Int64()), api.OK
}

func alike(o int, v []api.Value) (api.Value, api.Errno) {
	if isKind(v[0], api.Int, api.Blob) || isKind(v[1], api.Int, api.Blob) {
		return null, api.ErrKind
	}
	if slices.Contains(v, null) {
		return null, api.OK
	}
	ok, err := like.Match(v[1].S, v[0].S)
	if err != api.OK {
		return null, err
	}
	return valueOf(is(ok == (o == api.OpLike))), api.OK
}

func compare(o int, v []api.Value) truth {
	switch o {
	case api.OpEq:
		return same(v[0], v[1])
	case api.OpNe:
		return not(same(v[0], v[1]))
	case api.OpLt:
		return less(v[0], v[1])
	case api.OpLe:
		return not(less(v[1], v[0]))
	case api.OpGt:
		return less(v[1], v[0])
	case api.OpGe:
		return not(less(v[0], v[1]))
	case api.OpIsNull:
		return is(v[0].Kind == api.Null)
	case api.OpNotNull:
		return is(v[0].Kind != api.Null)
	case api.OpIn, api.OpNotIn:
		var l []truth
		for _, w := range v[1:] {
			l = append(l, same(v[0], w))
		}
		if o == api.OpIn {
			return some(l...)
		}
		return not(some(l...))
	case api.OpBetween:
		return all(not(less(v[0], v[1])), not(less(v[2], v[0])))
	}
	return some(less(v[0], v[1]), less(v[2], v[0]))
}

// modelEval has the errors of J1 ahead.
func modelEval(e []api.Node, cols []string, row []api.Value) (api.Value, api.Errno) {
	if err := expr.Check(e); err != api.OK {
		return null, err
	}
	if len(cols) > 8 {
		return null, api.ErrMany
	}
	if len(cols) != len(row) {
		return null, api.ErrForm
	}
	for _, v := range row {
		if err := value.Check(v); err != api.OK {
			return null, err
		}
	}
	return worth(treeOf(e), cols, row)
}

// modelTruth as in J3.
func modelTruth(e []api.Node, cols []string, row []api.Value) (int, api.Errno) {
	v, err := modelEval(e, cols, row)
	switch {
	case err != api.OK:
		return 0, err
	case isKind(v, api.Text, api.Blob):
		return 0, api.ErrKind
	case v.Kind == api.Null:
		return api.Unknown, api.OK
	case v.N == 0:
		return api.False, api.OK
	}
	return api.True, api.OK
}

func (t tree) hasColumn() bool {
	return t.is(api.OpCol) || slices.ContainsFunc(t.kids, tree.hasColumn)
}

// fold as in J4.
func fold(t tree) tree {
	if !t.hasColumn() {
		if v, err := worth(t, nil, nil); err == api.OK && (v.Kind != api.Int || v.N >= 0) {
			return leaf(lit(v))
		}
	}
	out := tree{node: t.node}
	for _, kid := range t.kids {
		out.kids = append(out.kids, fold(kid))
	}
	return out
}

// counterparts as in J5.
func counterparts() map[int]int {
	m := map[int]int{api.OpEq: api.OpNe, api.OpLt: api.OpGe, api.OpLe: api.OpGt, api.OpIsNull: api.OpNotNull, api.OpLike: api.OpNotLike, api.OpIn: api.OpNotIn, api.OpBetween: api.OpNotBetween}
	back := map[int]int{}
	for a, b := range m {
		back[a], back[b] = b, a
	}
	return back
}

// push as in J5, rule by rule, from the root down.
func push(t tree) tree {
	turned := func(k tree) tree { return branch(api.OpNot, k) }
	switch t.node.Op {
	case api.OpAnd, api.OpOr:
		return branch(t.node.Op, push(t.kids[0]), push(t.kids[1]))
	case api.OpNot:
		k := t.kids[0]
		if o, ok := counterparts()[k.node.Op]; ok {
			return k.with(o)
		}
		switch k.node.Op {
		case api.OpAnd:
			return push(branch(api.OpOr, turned(k.kids[0]), turned(k.kids[1])))
		case api.OpOr:
			return push(branch(api.OpAnd, turned(k.kids[0]), turned(k.kids[1])))
		case api.OpNot:
			return push(k.kids[0])
		}
	}
	return t
}

func modelFold(e []api.Node) ([]api.Node, api.Errno) {
	if err := expr.Check(e); err != api.OK {
		return nil, err
	}
	return fold(treeOf(e)).nodes(), api.OK
}

func modelPush(e []api.Node) ([]api.Node, api.Errno) {
	if err := expr.Check(e); err != api.OK {
		return nil, err
	}
	out := push(treeOf(e)).nodes()
	if err := expr.Check(out); err != api.OK {
		return nil, err
	}
	return out, api.OK
}

package eval

import (
	"slices"

	"starling/api"
	"starling/like"
	"starling/logic"
	"starling/whole"
)

// turns has what compares, and beside it what tells Not of it.
var turns = [...]struct{ plain, turned int }{
	{api.OpEq, api.OpNe},
	{api.OpLt, api.OpGe},
	{api.OpGt, api.OpLe},
	{api.OpIsNull, api.OpNotNull},
	{api.OpLike, api.OpNotLike},
	{api.OpIn, api.OpNotIn},
	{api.OpBetween, api.OpNotBetween},
}

// counterpart tells the op that is Not of what compares, if the op does.
func counterpart(op int) (int, bool) {
	for _, t := range turns {
		switch op {
		case t.plain:
			return t.turned, true
		case t.turned:
			return t.plain, true
		}
	}
	return 0, false
}

func isText(v api.Value) bool { return v.Kind == api.Text || v.Kind == api.Blob }

// reckoned tells the number of an op on whole numbers.
func reckoned(op int, kids []api.Value) (api.Value, api.Errno) {
	if slices.ContainsFunc(kids, isText) {
		return api.Value{}, api.ErrKind
	}
	if slices.Contains(kids, api.Value{}) {
		return api.Value{}, api.OK
	}
	n, err := number(op, kids[0].N, kids[len(kids)-1].N)
	if err != api.OK {
		return api.Value{}, err
	}
	return api.Value{Kind: api.Int, N: n}, api.OK
}

// number tells what an op of one or two kids makes of the first one and the last one.
func number(op int, a, b int64) (int64, api.Errno) {
	switch op {
	case api.OpNeg:
		return whole.Neg(a)
	case api.OpAdd:
		return whole.Add(a, b)
	case api.OpSub:
		return whole.Sub(a, b)
	case api.OpMul:
		return whole.Mul(a, b)
	case api.OpDiv:
		return whole.Div(a, b)
	}
	return whole.Mod(a, b)
}

// truthOf tells the truth value of a value.
func truthOf(v api.Value) (int, api.Errno) {
	switch {
	case isText(v):
		return 0, api.ErrKind
	case v.Kind == api.Null:
		return api.Unknown, api.OK
	case v.N == 0:
		return api.False, api.OK
	}
	return api.True, api.OK
}

// joined tells what And, Or and Not make of truth values.
func joined(op int, kids []api.Value) (int, api.Errno) {
	truths := make([]int, 0, len(kids))
	for _, v := range kids {
		truth, err := truthOf(v)
		if err != api.OK {
			return 0, err
		}
		truths = append(truths, truth)
	}
	switch op {
	case api.OpAnd:
		return logic.All(truths), api.OK
	case api.OpOr:
		return logic.Any(truths), api.OK
	}
	return logic.Not(truths[0]), api.OK
}

// compared tells what an op that compares tells of values.
func compared(op int, kids []api.Value) (int, api.Errno) {
	for _, t := range turns {
		if t.turned == op {
			truth, err := compared(t.plain, kids)
			return logic.Not(truth), err
		}
	}
	switch op {
	case api.OpEq:
		return logic.Same(kids[0], kids[1])
	case api.OpLt:
		return logic.Less(kids[0], kids[1])
	case api.OpGt:
		return logic.Less(kids[1], kids[0])
	case api.OpLike:
		return liked(kids[0], kids[1])
	case api.OpIn:
		return logic.In(kids[0], kids[1:])
	case api.OpBetween:
		return logic.Between(kids[0], kids[1], kids[2])
	}
	return truthIf(kids[0] == api.Value{}), api.OK
}

// liked tells whether a pattern stands for a text.
func liked(text, pattern api.Value) (int, api.Errno) {
	for _, v := range []api.Value{text, pattern} {
		if v.Kind == api.Int || v.Kind == api.Blob {
			return 0, api.ErrKind
		}
	}
	if text.Kind == api.Null || pattern.Kind == api.Null {
		return api.Unknown, api.OK
	}
	matches, err := like.Match(pattern.S, text.S)
	return truthIf(matches), err
}

func truthIf(so bool) int {
	if so {
		return api.True
	}
	return api.False
}

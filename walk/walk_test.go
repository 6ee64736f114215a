package walk

import (
	"slices"
	"strings"
	"testing"

	"starling/api"
)

// written tells a node behind its kids, between brackets.
func written(n api.Node, kids []string) (string, api.Errno) {
	if n.Name == "wrong" {
		return "", api.ErrZero
	}
	return "(" + strings.Join(kids, "") + n.Name + ")", api.OK
}

func nodes(kids ...int) []api.Node {
	var e []api.Node
	for i, k := range kids {
		e = append(e, api.Node{Kids: k, Name: string(rune('a' + i))})
	}
	return e
}

// I1: each node is told right behind its kids, in their order.
func TestUp(t *testing.T) {
	for _, c := range []struct {
		kids []int
		want []string
	}{
		{nil, nil},
		{[]int{0}, []string{"(a)"}},
		{[]int{0, 0}, []string{"(a)", "(b)"}},
		{[]int{0, 1}, []string{"((a)b)"}},
		{[]int{0, 0, 1, 2}, []string{"((a)((b)c)d)"}},
		{[]int{0, 0, 0, 2, 0}, []string{"(a)", "((b)(c)d)", "(e)"}},
		{[]int{0, 0, 0, 3}, []string{"((a)(b)(c)d)"}},
		{[]int{2}, []string{"(a)"}},
		{[]int{0, 2}, []string{"((a)b)"}},
		{[]int{0, -1, 1}, []string{"(a)", "((b)c)"}},
	} {
		if got, err := Up(nodes(c.kids...), written); err != api.OK || !slices.Equal(got, c.want) {
			t.Errorf("%v: %v, %d; want %v", c.kids, got, err, c.want)
		}
	}
}

// P1: with an error nothing is told, and nothing behind it is asked.
func TestUpError(t *testing.T) {
	e := nodes(0, 0, 2)
	e[1].Name = "wrong"
	asked := 0
	got, err := Up(e, func(n api.Node, kids []string) (string, api.Errno) {
		asked++
		return written(n, kids)
	})
	if got != nil || err != api.ErrZero || asked != 2 {
		t.Errorf("%v, %d, %d were asked", got, err, asked)
	}
}

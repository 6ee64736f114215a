package expr

import (
	"math/bits"
	"regexp"
	"slices"
	"strings"

	"starling/api"
	"starling/lex"
	"starling/value"
)

// draw: numbers that are the same each time.
type draw uint64

func (d *draw) next() uint64 {
	*d = *d*6364136223846793005 + 1442695040888963407
	x := uint64(*d)
	return bits.RotateLeft64(x^x>>29, 23) * 0x9E3779B97F4A7C15
}

func (d *draw) below(n int) int { return int(d.next() >> 11 % uint64(n)) }

func whole(n int64) api.Value { return api.Value{Kind: api.Int, N: n} }
func text(s string) api.Value { return api.Value{Kind: api.Text, S: s} }
func blob(s string) api.Value { return api.Value{Kind: api.Blob, S: s} }
func long(n int) string       { return strings.Repeat("w", n) }

func lit(v api.Value) api.Node        { return api.Node{Op: api.OpLit, V: v} }
func col(name string) api.Node        { return api.Node{Op: api.OpCol, Name: name} }
func op(op, kids int) api.Node        { return api.Node{Op: op, Kids: kids} }
func list(n ...api.Node) []api.Node   { return n }
func join(l ...[]api.Node) []api.Node { return slices.Concat(l...) }

// tree: a node and its kids.
type tree struct {
	node api.Node
	kids []tree
}

func (t tree) nodes() []api.Node {
	var e []api.Node
	for _, kid := range t.kids {
		e = append(e, kid.nodes()...)
	}
	return append(e, t.node)
}

func (t tree) depth() int {
	d := 0
	for _, kid := range t.kids {
		d = max(d, kid.depth())
	}
	return d + 1
}

// treeOf reads a right expression from its end on.
func treeOf(e []api.Node) tree {
	t, _ := lastTree(e)
	return t
}

func lastTree(e []api.Node) (tree, []api.Node) {
	t := tree{node: e[len(e)-1]}
	rest := e[:len(e)-1]
	for range t.node.Kids {
		var kid tree
		kid, rest = lastTree(rest)
		t.kids = slices.Insert(t.kids, 0, kid)
	}
	return t, rest
}

// rule of an op: how many kids it has, how much it binds, how much its kids must, and how it is told.
type rule struct {
	least, most, binds int
	kids               []int
	form               string
}

// Levels from what binds least, as I2 has them.
const (
	or, and, not, compares, add, mul, neg, one = 0, 1, 2, 3, 4, 5, 6, 7
)

func rules() map[int]rule {
	two := func(binds, left, right int, sign string) rule {
		return rule{2, 2, binds, []int{left, right}, "0 " + sign + " 1"}
	}
	in := []int{add, or, or, or, or, or, or}
	return map[int]rule{
		api.OpLit:        {0, 0, one, nil, ""},
		api.OpCol:        {0, 0, one, nil, ""},
		api.OpOr:         two(or, or, and, "or"),
		api.OpAnd:        two(and, and, not, "and"),
		api.OpNot:        {1, 1, not, []int{not}, "not 0"},
		api.OpEq:         two(compares, add, add, "="),
		api.OpNe:         two(compares, add, add, "<>"),
		api.OpLt:         two(compares, add, add, "<"),
		api.OpLe:         two(compares, add, add, "<="),
		api.OpGt:         two(compares, add, add, ">"),
		api.OpGe:         two(compares, add, add, ">="),
		api.OpIsNull:     {1, 1, compares, []int{add}, "0 is null"},
		api.OpNotNull:    {1, 1, compares, []int{add}, "0 is not null"},
		api.OpLike:       two(compares, add, add, "like"),
		api.OpNotLike:    two(compares, add, add, "not like"),
		api.OpIn:         {2, 7, compares, in, "0 in ( * )"},
		api.OpNotIn:      {2, 7, compares, in, "0 not in ( * )"},
		api.OpBetween:    {3, 3, compares, []int{add, add, add}, "0 between 1 and 2"},
		api.OpNotBetween: {3, 3, compares, []int{add, add, add}, "0 not between 1 and 2"},
		api.OpAdd:        two(add, add, mul, "+"),
		api.OpSub:        two(add, add, mul, "-"),
		api.OpMul:        two(mul, mul, neg, "*"),
		api.OpDiv:        two(mul, mul, neg, "/"),
		api.OpMod:        two(mul, mul, neg, "%"),
		api.OpNeg:        {1, 1, neg, []int{neg}, "- 0"},
	}
}

// reserved words, as H4 has them.
func reserved() []string {
	return strings.Split("and, any, as, asc, begin, between, blob, by, commit, count, create, delete, desc, distinct, drop, from, group, in, insert, integer, into, is, like, limit, max, min, not, null, offset, or, order, rollback, select, set, sum, table, text, unique, update, values, where", ", ")
}

// model of the chapter, from its words.
type model struct {
	rules map[int]rule
	name  *regexp.Regexp
}

func newModel() model {
	return model{rules(), regexp.MustCompile(`\A[a-z_][a-z_0-9]{0,11}\z`)}
}

func (m model) isName(s string) bool {
	return m.name.MatchString(s) && !slices.Contains(reserved(), s)
}

// check as in I1.
func (m model) check(e []api.Node) api.Errno {
	if len(e) > 60 {
		return api.ErrMany
	}
	if len(e) == 0 {
		return api.ErrForm
	}
	free := 0
	for _, n := range e {
		r, ok := m.rules[n.Op]
		if !ok {
			return api.ErrKind
		}
		if n.Kids < r.least || n.Kids > r.most || n.V != (api.Value{}) && n.Op != 1 || n.Name != "" && n.Op != 2 {
			return api.ErrForm
		}
		if err := value.Check(n.V); err != api.OK {
			return err
		}
		if n.V.Kind == api.Int && n.V.N < 0 {
			return api.ErrRange
		}
		if n.Op == 2 && !m.isName(n.Name) || free < n.Kids {
			return api.ErrForm
		}
		free += 1 - n.Kids
	}
	if free != 1 {
		return api.ErrForm
	}
	if treeOf(e).depth() > 12 {
		return api.ErrDeep
	}
	return api.OK
}

// say tells a tree as a text, by the forms of I2; more says whether a kid stands in brackets that need not be, and how many.
func (m model) say(t tree, more func() int) string {
	switch t.node.Op {
	case api.OpLit:
		s, _ := value.Show(t.node.V)
		return strings.Replace(s, "NULL", "null", 1)
	case api.OpCol:
		return t.node.Name
	}
	r := m.rules[t.node.Op]
	var kids []string
	for i, kid := range t.kids {
		s := m.say(kid, more)
		if m.rules[kid.node.Op].binds < r.kids[i] {
			s = "( " + s + " )"
		}
		for range more() {
			s = "( " + s + " )"
		}
		kids = append(kids, s)
	}
	var out []string
	for _, f := range strings.Fields(r.form) {
		switch f {
		case "0", "1", "2":
			f = kids[f[0]-'0']
		case "*":
			if t.node.Op == api.OpIn || t.node.Op == api.OpNotIn {
				f = strings.Join(kids[1:], " , ")
			}
		}
		out = append(out, f)
	}
	return strings.Join(out, " ")
}

func noMore() int { return 0 }

// lexed tells the tokens of a text, of whatever size, At 0.
func lexed(s string) []api.Token {
	var l []api.Token
	for _, piece := range strings.SplitAfter(s, " ") {
		some, _, err := lex.Lex(piece)
		if err != api.OK {
			panic(piece)
		}
		l = append(l, some...)
	}
	for i := range l {
		l[i].At = 0
	}
	return l
}

// tokens as in I3.
func (m model) tokens(e []api.Node) ([]api.Token, api.Errno) {
	if err := m.check(e); err != api.OK {
		return nil, err
	}
	l := lexed(m.say(treeOf(e), noMore))
	if len(l) > 120 {
		return nil, api.ErrMany
	}
	return l, api.OK
}

// chart tries all ways to cut tokens, each piece once.
type chart struct {
	m    model
	l    []string
	all  []api.Token
	seen map[[3]int]*tree
}

// read tells the one tree of tokens i to j that binds at least so much, nil if there is none.
func (c *chart) read(level, i, j int) *tree {
	if i >= j {
		return nil
	}
	key := [3]int{level, i, j}
	if t, ok := c.seen[key]; ok {
		return t
	}
	var t *tree
	if level < one {
		t = c.read(level+1, i, j)
	} else {
		t = c.single(i, j)
	}
	for o, r := range c.m.rules {
		if t == nil && r.binds == level && level < one {
			t = c.form(o, r, i, j)
		}
	}
	c.seen[key] = t
	return t
}

func (c *chart) single(i, j int) *tree {
	if j-i >= 3 && c.l[i] == "(" && c.l[j-1] == ")" {
		return c.read(or, i+1, j-1)
	}
	if j-i != 1 {
		return nil
	}
	switch t := c.all[i]; {
	case t.Kind == api.Number:
		return &tree{node: lit(whole(t.N))}
	case t.Kind == api.Quote:
		return &tree{node: lit(text(t.S))}
	case t.Kind == api.Bytes:
		return &tree{node: lit(blob(t.S))}
	case t.Kind == api.Word && t.S == "null":
		return &tree{node: lit(api.Value{})}
	case t.Kind == api.Word && !slices.Contains(reserved(), t.S):
		return &tree{node: col(t.S)}
	}
	return nil
}

func (c *chart) form(o int, r rule, i, j int) *tree {
	kids, ok := c.parts(o, r, strings.Fields(r.form), i, j)
	if !ok {
		return nil
	}
	return &tree{node: op(o, len(kids)), kids: kids}
}

// parts tells the kids of tokens i to j by a form.
func (c *chart) parts(o int, r rule, form []string, i, j int) ([]tree, bool) {
	if len(form) == 0 {
		return nil, i == j
	}
	f := form[0]
	isList := f == "*" && (o == api.OpIn || o == api.OpNotIn)
	if f != "0" && f != "1" && f != "2" && !isList {
		if i >= j || c.l[i] != f {
			return nil, false
		}
		return c.parts(o, r, form[1:], i+1, j)
	}
	for k := i + 1; k <= j; k++ {
		rest, ok := c.parts(o, r, form[1:], k, j)
		if !ok {
			continue
		}
		if isList {
			if kids, ok := c.list(i, k); ok {
				return append(kids, rest...), true
			}
		} else if t := c.read(r.kids[f[0]-'0'], i, k); t != nil {
			return append([]tree{*t}, rest...), true
		}
	}
	return nil, false
}

func (c *chart) list(i, j int) ([]tree, bool) {
	if t := c.read(or, i, j); t != nil {
		return []tree{*t}, true
	}
	for k := i; k < j; k++ {
		if c.l[k] != "," {
			continue
		}
		first := c.read(or, i, k)
		rest, ok := c.list(k+1, j)
		if first != nil && ok {
			return append([]tree{*first}, rest...), true
		}
	}
	return nil, false
}

// parse as in I3.
func (m model) parse(l []api.Token) ([]api.Node, api.Errno) {
	if len(l) > 120 {
		return nil, api.ErrMany
	}
	c := &chart{m: m, all: l, seen: map[[3]int]*tree{}}
	for _, t := range l {
		s, err := lex.Print([]api.Token{t})
		if err != api.OK {
			return nil, err
		}
		c.l = append(c.l, s)
	}
	t := c.read(or, 0, len(l))
	if t == nil {
		return nil, api.ErrForm
	}
	e := t.nodes()
	if err := m.check(e); err != api.OK {
		return nil, err
	}
	return e, api.OK
}

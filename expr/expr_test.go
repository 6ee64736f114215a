package expr

import (
	"math"
	"slices"
	"strings"
	"sync"
	"testing"

	"starling/api"
	"starling/lex"
)

func parsed(t *testing.T, s string) ([]api.Node, api.Errno) {
	t.Helper()
	l, _, err := lex.Lex(s)
	if err != api.OK {
		t.Fatalf("%q: %d", s, err)
	}
	return Parse(l)
}

// wrongNodes has nodes with one fault or several.
func wrongNodes() []api.Node {
	l := []api.Node{
		{}, op(-1, 0), op(0, 2), op(26, 0), op(26, 2), {Op: 26, Name: "Z", V: whole(-1)}, op(math.MaxInt, 1), op(math.MinInt, 1),
		{Op: api.OpLit, Kids: 1}, {Op: api.OpLit, Kids: -1}, {Op: api.OpLit, Name: "a"}, {Op: api.OpLit, Name: "a", V: whole(-1)}, {Op: api.OpLit, Kids: 1, V: api.Value{Kind: 9}},
		lit(whole(-1)), lit(whole(math.MinInt64)), lit(api.Value{Kind: -1}), lit(api.Value{Kind: 4}), lit(api.Value{N: 1}), lit(api.Value{N: -1}), lit(api.Value{S: "a"}), lit(api.Value{Kind: api.Int, N: -1, S: "a"}), lit(api.Value{Kind: api.Text, N: -1}), lit(text(long(17))), lit(blob(long(17))), lit(api.Value{Kind: api.Blob, N: 1, S: long(17)}),
		{Op: api.OpCol}, col("A"), col("a b"), col("9"), col("9a"), col(long(13)), col("select"), col("null"), col("not"), col("\xff"), col("'"), col("a;"), col("--"), col(long(1000)), {Op: api.OpCol, Kids: 1, Name: "a"}, {Op: api.OpCol, Kids: -2, Name: "a"}, {Op: api.OpCol, Name: "a", V: whole(0)}, {Op: api.OpCol, Name: "a", V: api.Value{Kind: 9}},
	}
	for o := api.OpNeg; o <= api.OpNotBetween; o++ {
		for _, kids := range []int{-1, 0, 1, 2, 3, 4, 6, 7, 8, 9, math.MaxInt, math.MinInt} {
			l = append(l, op(o, kids))
		}
		l = append(l, api.Node{Op: o, Kids: 2, Name: "a"}, api.Node{Op: o, Kids: 1, V: whole(1)}, api.Node{Op: o, Kids: 3, V: api.Value{Kind: 9}})
	}
	return l
}

func rightLeaves() []api.Node {
	return []api.Node{lit(api.Value{}), lit(whole(0)), lit(whole(math.MaxInt64)), lit(text("")), lit(text("it's")), lit(text(long(16))), lit(blob("")), lit(blob(long(16))), lit(blob("\x00\xff")), col("a"), col("_"), col("x"), col("z9_"), col(long(12))}
}

// checkShape holds Check, Depth and Kids against the model.
func checkShape(t *testing.T, m model, e []api.Node) {
	t.Helper()
	want := m.check(e)
	if got := Check(e); got != want {
		t.Fatalf("Check(%v) = %d; want %d", e, got, want)
	}
	depth, err := Depth(e)
	kids, kidsErr := Kids(e)
	if err != want || kidsErr != want {
		t.Fatalf("%v: Depth's error is %d, that of Kids %d; want %d", e, err, kidsErr, want)
	}
	if want != api.OK {
		if depth != 0 || kids != nil {
			t.Fatalf("%v: %d and %v with an error", e, depth, kids)
		}
		return
	}
	tree := treeOf(e)
	if depth != tree.depth() || len(kids) != len(tree.kids) {
		t.Fatalf("%v: depth %d, %d kids; want %d, %d", e, depth, len(kids), tree.depth(), len(tree.kids))
	}
	for i, kid := range kids {
		if !slices.Equal(kid, tree.kids[i].nodes()) {
			t.Fatalf("%v: kid %d is %v; want %v", e, i, kid, tree.kids[i].nodes())
		}
	}
}

// I1: each kind of node with right kids, and each wrong one alone, ahead of others and behind them.
func TestShape(t *testing.T) {
	m := newModel()
	one := list(lit(whole(1)))
	for _, leaf := range rightLeaves() {
		checkShape(t, m, list(leaf))
	}
	for o, r := range m.rules {
		for kids := range 10 {
			e := join(slices.Repeat(one, kids), list(op(o, kids)))
			if r.least > 0 {
				checkShape(t, m, e)
				checkShape(t, m, e[1:])
			}
			checkShape(t, m, join(one, e))
		}
	}
	wrong := wrongNodes()
	for _, n := range wrong {
		for ahead := range 9 {
			checkShape(t, m, join(slices.Repeat(one, ahead), list(n)))
		}
		checkShape(t, m, list(lit(whole(1)), n, op(api.OpNot, 1)))
		for _, other := range wrong {
			checkShape(t, m, list(n, other))
			checkShape(t, m, list(lit(whole(1)), lit(text("a")), n, other))
		}
	}
}

// I1: what the errors are, told one by one.
func TestCheckErrors(t *testing.T) {
	a, deep := col("a"), list(col("a"))
	for range 12 {
		deep = append(deep, op(api.OpNot, 1))
	}
	for _, c := range []struct {
		e    []api.Node
		want api.Errno
	}{
		{nil, api.ErrForm}, {list(), api.ErrForm},
		{make([]api.Node, 61), api.ErrMany}, {make([]api.Node, 60), api.ErrKind},
		{list(op(0, 0)), api.ErrKind}, {list(op(26, 0)), api.ErrKind},
		{list(op(api.OpNot, 1)), api.ErrForm}, {list(a, op(api.OpAnd, 2)), api.ErrForm}, {list(a, op(api.OpAnd, 1)), api.ErrForm},
		{list(a, a), api.ErrForm}, {list(a, a, op(api.OpNot, 1)), api.ErrForm},
		{list(lit(api.Value{Kind: 9})), api.ErrKind}, {list(lit(api.Value{N: 1})), api.ErrForm}, {list(lit(text(long(17)))), api.ErrMany}, {list(lit(whole(-1))), api.ErrRange},
		{list(col(long(13))), api.ErrForm}, {list(col("")), api.ErrForm}, {list(col("where")), api.ErrForm}, {list(col("Wren")), api.ErrForm},
		{list(op(api.OpNot, 1), op(0, 0)), api.ErrForm}, {list(lit(whole(-1)), op(0, 0)), api.ErrRange},
		{deep[:12], api.OK}, {deep, api.ErrDeep}, {append(list(a), deep...), api.ErrForm},
	} {
		if got := Check(c.e); got != c.want {
			t.Errorf("Check(%v) = %d; want %d", c.e, got, c.want)
		}
	}
	for _, w := range reserved() {
		if Check(list(col(w))) != api.ErrForm || Check(list(col(w+"_"))) != api.OK && len(w) < 12 {
			t.Errorf("a column named %q", w)
		}
	}
}

// drawnTree has at most so many nodes below one another.
func drawnTree(d *draw, m model, depth int) tree {
	leaves := rightLeaves()
	if depth == 1 || d.below(5) == 0 {
		return tree{node: leaves[d.below(len(leaves))]}
	}
	o := api.OpNeg + d.below(api.OpNotBetween-api.OpNeg+1)
	r := m.rules[o]
	t := tree{node: op(o, r.least+d.below(r.most-r.least+1))}
	for range t.node.Kids {
		t.kids = append(t.kids, drawnTree(d, m, depth-1))
	}
	return t
}

// I1: drawn expressions, right ones and such as something was done to.
func TestShapeDrawn(t *testing.T) {
	m := newModel()
	d := draw(1)
	wrong := wrongNodes()
	for range 20000 {
		e := drawnTree(&d, m, 1+d.below(6)).nodes()
		checkShape(t, m, e)
		i := d.below(len(e))
		checkShape(t, m, slices.Delete(slices.Clone(e), i, i+1))
		checkShape(t, m, slices.Insert(slices.Clone(e), i, wrong[d.below(len(wrong))]))
		checkShape(t, m, slices.Insert(slices.Clone(e), i, e[d.below(len(e))]))
		e[i] = wrong[d.below(len(wrong))]
		checkShape(t, m, e)
	}
}

// row joins so many columns by an op of two kids, the left ones first.
func row(o, n int) []api.Node {
	e := list(col("a"))
	for range n - 1 {
		e = append(e, col("a"), op(o, 2))
	}
	return e
}

// balanced joins so many columns by ors, as flat as can be.
func balanced(n int) []api.Node {
	if n == 1 {
		return list(col("a"))
	}
	return join(balanced(n/2), balanced(n-n/2), list(op(api.OpOr, 2)))
}

// I1: as many nodes as may be and one more, as deep as may be and one deeper, in each kid.
func TestShapeLimits(t *testing.T) {
	m := newModel()
	nodes60 := join(list(col("a")), balanced(29), list(op(api.OpNot, 1)), list(op(api.OpEq, 2)))
	if len(nodes60) != 60 || Check(nodes60) != api.OK {
		t.Errorf("%d nodes: %d", len(nodes60), Check(nodes60))
	}
	checkShape(t, m, nodes60)
	checkShape(t, m, append(nodes60, op(api.OpNot, 1)))
	checkShape(t, m, balanced(30))
	checkShape(t, m, balanced(31))
	for _, n := range []int{11, 12, 13, 14} {
		deep := row(api.OpAdd, n)
		checkShape(t, m, deep)
		for kids := 2; kids <= 7; kids++ {
			for at := range kids {
				e := slices.Repeat(list(lit(whole(1))), at)
				e = append(e, row(api.OpAdd, n-1)...)
				e = append(e, slices.Repeat(list(lit(whole(1))), kids-1-at)...)
				checkShape(t, m, append(e, op(api.OpIn, kids)))
			}
		}
	}
	for _, n := range []int{12, 13} {
		for o, r := range m.rules {
			if r.least != 1 {
				continue
			}
			e := list(col("a"))
			for range n - 1 {
				e = append(e, op(o, 1))
			}
			checkShape(t, m, e)
		}
	}
}

func checkTokens(t *testing.T, m model, e []api.Node) {
	t.Helper()
	got, err := Tokens(e)
	want, wantErr := m.tokens(e)
	if err != wantErr || !slices.Equal(got, want) || err != api.OK && got != nil {
		t.Fatalf("Tokens(%v) = %v, %d; want %v, %d", e, got, err, want, wantErr)
	}
	if err != api.OK {
		return
	}
	if back, err := Parse(got); err != api.OK || !slices.Equal(back, e) {
		t.Fatalf("%v was read as %v, %d; want %v", got, back, err, e)
	}
}

// I2, I3, I4: each op in each place of each other one, with brackets just where they must be.
func TestTokensPairs(t *testing.T) {
	m := newModel()
	leaf := func(name string) tree { return tree{node: col(name)} }
	filled := func(o, kids int) tree {
		t := tree{node: op(o, kids)}
		for i := range kids {
			t.kids = append(t.kids, leaf(string(rune('a'+i))))
		}
		return t
	}
	for o, r := range m.rules {
		for kids := max(r.least, 1); kids <= r.most; kids++ {
			for inner, s := range m.rules {
				for place := range kids {
					outer := filled(o, kids)
					if s.least == 0 {
						outer.kids[place] = tree{node: lit(whole(7))}
					} else {
						outer.kids[place] = filled(inner, s.least)
					}
					checkTokens(t, m, outer.nodes())
				}
			}
		}
	}
	for _, leaf := range rightLeaves() {
		checkTokens(t, m, list(leaf))
		checkTokens(t, m, list(leaf, op(api.OpNeg, 1)))
	}
	for _, n := range wrongNodes() {
		checkTokens(t, m, list(n))
		checkTokens(t, m, list(lit(whole(1)), lit(whole(1)), n))
	}
}

// brackets tells the places of each pair.
func brackets(l []api.Token) [][2]int {
	var pairs [][2]int
	var open []int
	for i, t := range l {
		switch t.S {
		case "(":
			open = append(open, i)
		case ")":
			pairs = append(pairs, [2]int{open[len(open)-1], i})
			open = open[:len(open)-1]
		}
	}
	return pairs
}

// I3, I4: drawn expressions are read as they were, with more brackets too; without one pair of those that Tokens tells they are not.
func TestTokensDrawn(t *testing.T) {
	m := newModel()
	d := draw(2)
	tried := 0
	for range 20000 {
		tree := drawnTree(&d, m, 1+d.below(6))
		e := tree.nodes()
		checkTokens(t, m, e)
		l, err := Tokens(e)
		if err != api.OK {
			continue
		}
		for _, pair := range brackets(l) {
			fewer := slices.Delete(slices.Clone(l), pair[1], pair[1]+1)
			fewer = slices.Delete(fewer, pair[0], pair[0]+1)
			if back, err := Parse(fewer); err == api.OK && slices.Equal(back, e) {
				t.Fatalf("%v has a pair of brackets too many, at %v", l, pair)
			}
			tried++
		}
		more := lexed(m.say(tree, func() int { return d.below(5) / 3 }))
		back, err := Parse(more)
		if len(more) > 120 {
			if err != api.ErrMany {
				t.Fatalf("%d tokens: %d", len(more), err)
			}
		} else if err != api.OK || !slices.Equal(back, e) {
			t.Fatalf("%v was read as %v, %d; want %v", more, back, err, e)
		}
	}
	if tried < 10000 {
		t.Errorf("only %d pairs of brackets", tried)
	}
}

// nulls sets tests for Null above one another: each costs so many tokens (4: is null, 5: is not null), but the lowest one two fewer.
func nulls(costs ...int) []api.Node {
	e := list(col("a"))
	for _, cost := range costs {
		e = append(e, op(map[int]int{4: api.OpIsNull, 5: api.OpNotNull}[cost], 1))
	}
	return e
}

// I3: as many tokens as may be, and one more.
func TestTokensLimits(t *testing.T) {
	m := newModel()
	nine := nulls(5, 5, 5, 5, 5, 5, 5, 5, 5)
	both := join(nine, nine, list(op(api.OpAnd, 2)))
	for _, c := range []struct {
		costs []int
		size  int
		err   api.Errno
	}{{[]int{5, 5, 5, 4, 4, 4}, 116, 0}, {[]int{5, 5, 5, 4, 4, 4, 4}, 120, 0}, {[]int{5, 5, 5, 5, 4, 4, 4}, 0, api.ErrMany}} {
		e := join(both, nulls(c.costs...), list(op(api.OpAnd, 2)))
		l, err := Tokens(e)
		if len(l) != c.size || err != c.err {
			t.Errorf("%v: %d tokens, %d; want %d, %d", c.costs, len(l), err, c.size, c.err)
		}
		checkTokens(t, m, e)
	}
}

// I2: what stands where, in words.
func TestParse(t *testing.T) {
	a, b, c, one := col("a"), col("b"), col("c"), lit(whole(1))
	for _, x := range []struct {
		s    string
		want []api.Node
	}{
		{"a or b or c", list(a, b, op(api.OpOr, 2), c, op(api.OpOr, 2))},
		{"a or (b or c)", list(a, b, c, op(api.OpOr, 2), op(api.OpOr, 2))},
		{"a or b and c", list(a, b, c, op(api.OpAnd, 2), op(api.OpOr, 2))},
		{"a and b or c", list(a, b, op(api.OpAnd, 2), c, op(api.OpOr, 2))},
		{"a and b and c", list(a, b, op(api.OpAnd, 2), c, op(api.OpAnd, 2))},
		{"not a and b", list(a, op(api.OpNot, 1), b, op(api.OpAnd, 2))},
		{"not a = b", list(a, b, op(api.OpEq, 2), op(api.OpNot, 1))},
		{"not not a", list(a, op(api.OpNot, 1), op(api.OpNot, 1))},
		{"a = b + c", list(a, b, c, op(api.OpAdd, 2), op(api.OpEq, 2))},
		{"a <> b", list(a, b, op(api.OpNe, 2))}, {"a < b", list(a, b, op(api.OpLt, 2))}, {"a <= b", list(a, b, op(api.OpLe, 2))}, {"a > b", list(a, b, op(api.OpGt, 2))}, {"a >= b", list(a, b, op(api.OpGe, 2))},
		{"a is null", list(a, op(api.OpIsNull, 1))}, {"a is not null", list(a, op(api.OpNotNull, 1))},
		{"a like b", list(a, b, op(api.OpLike, 2))}, {"a not like b", list(a, b, op(api.OpNotLike, 2))},
		{"a in (b)", list(a, b, op(api.OpIn, 2))}, {"a not in (b or c, 1)", list(a, b, c, op(api.OpOr, 2), one, op(api.OpNotIn, 3))},
		{"a in ((b))", list(a, b, op(api.OpIn, 2))},
		{"a between b and c and 1", list(a, b, c, op(api.OpBetween, 3), one, op(api.OpAnd, 2))},
		{"not a not between b and c", list(a, b, c, op(api.OpNotBetween, 3), op(api.OpNot, 1))},
		{"a - b - c", list(a, b, op(api.OpSub, 2), c, op(api.OpSub, 2))},
		{"a - b + c", list(a, b, op(api.OpSub, 2), c, op(api.OpAdd, 2))},
		{"a + b * c", list(a, b, c, op(api.OpMul, 2), op(api.OpAdd, 2))},
		{"a / b * c % 1", list(a, b, op(api.OpDiv, 2), c, op(api.OpMul, 2), one, op(api.OpMod, 2))},
		{"- a * - b", list(a, op(api.OpNeg, 1), b, op(api.OpNeg, 1), op(api.OpMul, 2))},
		{"a - - b", list(a, b, op(api.OpNeg, 1), op(api.OpSub, 2))},
		{"- 1", list(one, op(api.OpNeg, 1))},
		{"null", list(lit(api.Value{}))}, {"NULL is Null", list(lit(api.Value{}), op(api.OpIsNull, 1))},
		{"'it''s'", list(lit(text("it's")))}, {"X'0aFF'", list(lit(blob("\x0a\xff")))},
		{"(((a)))", list(a)},
	} {
		if got, err := parsed(t, x.s); err != api.OK || !slices.Equal(got, x.want) {
			t.Errorf("%s: %v, %d; want %v", x.s, got, err, x.want)
		}
	}
	for _, s := range []string{"", "(", ")", "()", "a b", "a = b = c", "a is null is null", "a is b", "a is", "a is not", "a not", "a not null", "a not = b", "a like", "a in", "a in b", "a in ()", "a in (b", "a in (b,)", "a in (,b)", "a in (b c)", "a between b", "a between b or c", "a between b and", "a between not b and c", "a = not b", "- not a", "a +", "+ a", "* a", "a and", "and a", "or", "not", "a, b", "a;", "(a, b)", "(a", "a)", "select", "count", "max", "a or where", "any", "integer", "a <", "a < > b", "a not not like b", "a is not not null", "null null"} {
		if got, err := parsed(t, s); err != api.ErrForm || got != nil {
			t.Errorf("%s: %v, %d", s, got, err)
		}
	}
}

// alphabet has a token of each sort.
func alphabet() []api.Token {
	return lexed("a 1 ( ) , or and not = is null like in between + - *")
}

func checkParse(t *testing.T, m model, l []api.Token) {
	t.Helper()
	got, err := Parse(l)
	want, wantErr := m.parse(l)
	if err != wantErr || !slices.Equal(got, want) || err != api.OK && got != nil {
		t.Fatalf("Parse(%v) = %v, %d; want %v, %d", l, got, err, want, wantErr)
	}
}

// I2, I3: all short lists of tokens, and drawn ones that were right until something was done to them.
func TestParseModel(t *testing.T) {
	m := newModel()
	signs := alphabet()
	lists := [][]api.Token{nil}
	for range 4 {
		var longer [][]api.Token
		for _, l := range lists {
			checkParse(t, m, l)
			for _, s := range signs {
				longer = append(longer, append(slices.Clone(l), s))
			}
		}
		lists = longer
	}
	for i := 0; i < len(lists); i += 3 {
		checkParse(t, m, lists[i])
	}
	signs = append(signs, lexed("'x' x'00' select count b <> < <= > >= / % ;")...)
	d := draw(3)
	for range 8000 {
		l, err := Tokens(drawnTree(&d, m, 1+d.below(4)).nodes())
		if err != api.OK || len(l) > 40 {
			continue
		}
		checkParse(t, m, l)
		for range 1 + d.below(2) {
			i := d.below(len(l))
			switch d.below(4) {
			case 0:
				l = slices.Delete(l, i, i+1)
			case 1:
				l = slices.Insert(l, i, signs[d.below(len(signs))])
			case 2:
				l[i] = signs[d.below(len(signs))]
			case 3:
				j := d.below(len(l))
				l[i], l[j] = l[j], l[i]
			}
			checkParse(t, m, l)
			if len(l) == 0 {
				break
			}
		}
	}
}

// wrongTokens has what Print does not tell, with its error.
func wrongTokens() map[api.Token]api.Errno {
	return map[api.Token]api.Errno{
		{}: api.ErrKind, {Kind: 6}: api.ErrKind, {Kind: -1, N: 1, S: "a"}: api.ErrKind,
		{Kind: api.Word, N: 1, S: "a"}: api.ErrForm, {Kind: api.Word}: api.ErrForm, {Kind: api.Word, S: "A"}: api.ErrForm, {Kind: api.Word, S: long(13)}: api.ErrMany,
		{Kind: api.Number, S: "1"}: api.ErrForm, {Kind: api.Number, N: -1}: api.ErrRange,
		{Kind: api.Quote, N: 1}: api.ErrForm, {Kind: api.Quote, S: long(17)}: api.ErrMany,
		{Kind: api.Bytes, N: 1}: api.ErrForm, {Kind: api.Bytes, S: long(17)}: api.ErrMany,
		{Kind: api.Sign, S: "=="}: api.ErrForm, {Kind: api.Sign, N: 1, S: "="}: api.ErrForm, {Kind: api.Sign}: api.ErrForm,
	}
}

// I3: each error in its order: too many tokens, wrong ones, no expression, a wrong one.
func TestParseErrors(t *testing.T) {
	word := api.Token{Kind: api.Word, S: "a"}
	for bad, want := range wrongTokens() {
		for _, l := range [][]api.Token{{bad}, {word, word, bad}, {word, bad, {Kind: api.Sign, S: ";"}}, append(slices.Repeat([]api.Token{word}, 119), bad)} {
			if got, err := Parse(l); got != nil || err != want {
				t.Errorf("Parse(%v) = %v, %d; want %d", l, got, err, want)
			}
		}
		if got, err := Parse(append(slices.Repeat([]api.Token{word}, 120), bad)); got != nil || err != api.ErrMany {
			t.Errorf("121 tokens: %v, %d", got, err)
		}
		for other, first := range wrongTokens() {
			if _, err := Parse([]api.Token{other, bad}); err != first {
				t.Errorf("Parse(%v, %v): %d; want %d", other, bad, err, first)
			}
		}
	}
	// Tokens of which the text would be too long.
	texts := strings.Repeat("'"+long(16)+"' or ", 11) + "'" + long(16) + "'"
	if e, err := Parse(lexed(texts)); len(e) != 23 || err != api.OK {
		t.Errorf("12 texts: %d nodes, %d", len(e), err)
	}
	nots := func(n int) string { return strings.Repeat("not ", n) + "a" }
	wraps := func(n int) string { return strings.Repeat("( ", n) + "a" + strings.Repeat(" )", n) }
	in := func(n int) string { return "a in ( " + strings.Repeat("a , ", n-1) + "a )" }
	for _, c := range []struct {
		s     string
		nodes int
		want  api.Errno
	}{
		{nots(11), 12, api.OK}, {nots(12), 0, api.ErrDeep}, {nots(59), 0, api.ErrDeep}, {nots(60), 0, api.ErrMany}, {nots(119), 0, api.ErrMany}, {nots(120), 0, api.ErrMany},
		{nots(60) + " a", 0, api.ErrForm}, {nots(12) + " b", 0, api.ErrForm},
		{wraps(59), 1, api.OK}, {"not " + wraps(59), 2, api.OK}, {wraps(60), 0, api.ErrMany}, {wraps(59) + " )", 0, api.ErrForm},
		{in(6), 8, api.OK}, {in(7), 0, api.ErrForm}, {in(40), 0, api.ErrForm}, {in(58), 0, api.ErrForm}, {in(59), 0, api.ErrMany},
		{nots(12) + " and " + in(7), 0, api.ErrForm}, {nots(12) + " and " + in(6), 0, api.ErrDeep},
		{strings.Repeat("a or ", 11) + "a", 23, api.OK}, {strings.Repeat("a or ", 12) + "a", 0, api.ErrDeep}, {strings.Repeat("a or ", 30) + "a", 0, api.ErrMany}, {strings.Repeat("a or ", 30) + "select", 0, api.ErrForm}, {strings.Repeat("a or ", 30) + "a in ( )", 0, api.ErrForm}, {strings.Repeat("a or ", 29) + "a", 0, api.ErrDeep},
	} {
		if e, err := Parse(lexed(c.s)); len(e) != c.nodes || err != c.want {
			t.Errorf("%s: %d nodes, %d; want %d, %d", c.s, len(e), err, c.nodes, c.want)
		}
	}
}

// I3: where a token stood is not looked at, nor told.
func TestPlaces(t *testing.T) {
	l := []api.Token{{Kind: api.Word, At: 9, S: "a"}, {Kind: api.Sign, At: -5, S: "="}, {Kind: api.Number, At: math.MaxInt, N: 1}}
	e, err := Parse(l)
	if err != api.OK || !slices.Equal(e, list(col("a"), lit(whole(1)), op(api.OpEq, 2))) {
		t.Errorf("%v, %d", e, err)
	}
	back, err := Tokens(e)
	for i := range l {
		l[i].At = 0
	}
	if err != api.OK || !slices.Equal(back, l) {
		t.Errorf("%v, %d; want %v", back, err, l)
	}
}

// P2: lists are only read, the room behind them too; what is answered is the caller's, and no two lists of it share memory.
func TestOnlyRead(t *testing.T) {
	room := join(list(col("a"), lit(whole(1)), op(api.OpEq, 2), lit(text("b")), lit(blob("c")), op(api.OpIn, 3)), wrongNodes()[:5])
	kept := slices.Clone(room)
	for size := range 8 {
		e := room[:size]
		Check(e)
		Depth(e)
		kids, _ := Kids(e)
		tokens, _ := Tokens(e)
		for i, kid := range kids {
			others := slices.Clone(kids)
			want := slices.Clone(others[(i+1)%len(kids)])
			kid = kid[:cap(kid)]
			for j := range kid {
				kid[j] = op(99, 9)
			}
			if other := kids[(i+1)%len(kids)]; len(kids) > 1 && !slices.Equal(other, want) && i+1 < len(kids) {
				t.Errorf("kid %d shares memory with the next one", i)
			}
		}
		for i := range tokens {
			tokens[i] = api.Token{Kind: 9}
		}
		if !slices.Equal(room, kept) {
			t.Fatalf("%d nodes: %v; it was %v", size, room, kept)
		}
	}
	l := append(lexed("a + 1 in ( b )"), api.Token{Kind: 9}, api.Token{Kind: 8})
	was := slices.Clone(l)
	for size := range len(l) + 1 {
		e, _ := Parse(l[:size])
		for i := range e {
			e[i] = op(99, 9)
		}
		if !slices.Equal(l, was) {
			t.Fatalf("%d tokens: %v; it was %v", size, l, was)
		}
	}
}

// P1, P3: whatever is handed in, and whoever asks at the same time.
func TestNothingIsKept(t *testing.T) {
	var hands sync.WaitGroup
	for seed := range 4 {
		hands.Go(func() {
			m := newModel()
			d := draw(100 + seed)
			wrong := wrongNodes()
			for range 1000 {
				e := drawnTree(&d, m, 1+d.below(5)).nodes()
				if d.below(3) == 0 {
					e[d.below(len(e))] = wrong[d.below(len(wrong))]
				}
				got, err := Tokens(e)
				if want, wantErr := m.tokens(e); !slices.Equal(got, want) || err != wantErr {
					t.Errorf("Tokens(%v) = %v, %d; want %v, %d", e, got, err, want, wantErr)
				}
				if back, backErr := Parse(got); err == api.OK && (backErr != api.OK || !slices.Equal(back, e)) {
					t.Errorf("Parse(%v) = %v, %d; want %v", got, back, backErr, e)
				}
			}
		})
	}
	hands.Wait()
}
